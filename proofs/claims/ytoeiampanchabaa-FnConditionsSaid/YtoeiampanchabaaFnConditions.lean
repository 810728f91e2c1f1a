/-
  Proved here: for every input, conditions are as large as their parts, and their leaves are told once each.
  Conditions: those that the given row itself prints; none of our own.
-/
import Derived.Test.YtoeiampanchabaaCondW
import Derived.Test.YtoeiampanchabaaDraw15d
import Derived.Test.YtoeiampanchabaaNode7
import Derived.Test.YtoeiampanchabaaNode9
import Derived.Test.YtoeiampanchabaaCopy4
import Derived.Test.YtoeiampanchabaaLeaf2
import Derived.Test.YtoeiampanchabaaAbs
import Derived.WalkKit
import Derived.ProofKit
import Derived.OpenShut
import Derived.ShutString
import Derived.ChangeOld
import Derived.Below
import Derived.WalkLawsBesides
import Derived.WalkSpells
import Derived.LoopTactic
import Derived.Lib.Hide
import Derived.Deep.DeepCutAuto
import Derived.Handy
import Derived.Deep.RegionHeld3
namespace Go.Proofs.Ytoeiampanchabaa.fnConditions
open Go.ChangeShapes Go.WideShapes Go.ChangeAt Go.RowKit
open Go.ChangeMaps (open_string shut_string)
set_option linter.unusedVariables false

theorem own : ownKnob Try.prog.godebug = none := by kernel_rfl
theorem laidOut : laidOutB Try.prog = true := by kernel_rfl

set_option maxHeartbeats 16000000 in
set_option maxRecDepth 100000 in
theorem walk (a0 : Option Addr) (len0 cap0 : Nat) (z0 : List Int) (w : World) (w0 : IsRow .u8 w a0 len0 cap0 z0) :
    Calls Try.prog 3 #[.slice a0 len0 cap0] w fun e w' => e = .returned (.bool true) ∧ Below w.heap.size w w' := by
  by_cases hbig : (len0 : Int) ≤ 1048576
  · go_enter Try.func3, Try.ntmps3
    go_wp2_with (go_at_call 12; go_in)
    refine (draw_condAnd w a0 len0 cap0 z0 w0).mono ?_
    rintro e w1 ⟨u, x, v, y, rfl, ⟨hsx, xA, xc, rfl, hmx⟩, ⟨hsy, yA, yc, rfl, hmy⟩, hb1⟩
    have hrx := hmx.read
    have hry := hmy.read
    have hpx := sizeD_pos x
    have hpy := sizeD_pos y
    clear hmx hmy
    obtain ⟨V, hV⟩ : ∃ V, V = (w1.alloc (.cells #[.int .i64 x.Op, .int .i64 x.A, .int .i64 x.B, .slice xA x.Args.length xc] 26)).alloc (.cells #[.int .i64 y.Op, .int .i64 y.A, .int .i64 y.B, .slice yA y.Args.length yc] 26) := ⟨_, rfl⟩
    have hbV : Below w1.heap.size w1 V := by rw [hV]; go_grown
    have hX : V.heap[w1.heap.size]? = some (.cells #[.int .i64 x.Op, .int .i64 x.A, .int .i64 x.B, .slice xA x.Args.length xc] 26) := by rw [hV]; exact blk_keep (C := w1.heap.size + 1) (blk_new _ _ _) (by go_grown) (by omega)
    have hY : V.heap[w1.heap.size + 1]? = some (.cells #[.int .i64 y.Op, .int .i64 y.A, .int .i64 y.B, .slice yA y.Args.length yc] 26) := by rw [hV]; exact blk_new_at _ _ (by simp)
    have HX := Lib.hid hX
    have HY := Lib.hid hY
    clear hX hY
    have rx : ∀ U : World, Below V.heap.size V U → rdL U U.heap.size (CondD.c x) [.int .i64 x.Op, .int .i64 x.A, .int .i64 x.B, .slice xA x.Args.length xc] := fun U hU => (hrx.below (hbV.trans (hU.mono hbV.size)) (Nat.le_refl _)).more (hbV.trans (hU.mono hbV.size)).size
    have ry : ∀ U : World, Below V.heap.size V U → rdL U U.heap.size (CondD.c y) [.int .i64 y.Op, .int .i64 y.A, .int .i64 y.B, .slice yA y.Args.length yc] := fun U hU => (hry.below (hbV.trans (hU.mono hbV.size)) (Nat.le_refl _)).more (hbV.trans (hU.mono hbV.size)).size
    have sx : szE (CondD.c x) ≤ 100000000 := by unfold sizeD at hsx; omega
    have sy : szE (CondD.c y) ≤ 100000000 := by unfold sizeD at hsy; omega
    have sx7 : szE (CondD.c x) ≤ 7 := by unfold sizeD at hsx; omega
    have sy7 : szE (CondD.c y) ≤ 7 := by unfold sizeD at hsy; omega
    have CX := Lib.hid (fun (U : World) (hU : Below V.heap.size V U) => implZ_sizeOf U U.heap.size x _ (rx U hU) (Nat.le_refl _) sx)
    have CY := Lib.hid (fun (U : World) (hU : Below V.heap.size V U) => implZ_sizeOf U U.heap.size y _ (ry U hU) (Nat.le_refl _) sy)
    have CZ := Lib.hid (fun (U : World) (D : CondD) (us : List Value) (h : rdL U U.heap.size (CondD.c D) us) (hs : szE (CondD.c D) ≤ 100000000) (n : Int) (hn : sizeD D = n) => show Calls Try.prog 14 #[.agg us.toArray] U fun e w' => e = .returned (.int .i64 n) ∧ Below U.heap.size U w' from hn ▸ implZ_sizeOf U U.heap.size D us h (Nat.le_refl _) hs)
    have IX := Lib.hid (fun (U : World) (hU : Below V.heap.size V U) => implZ_isCond U U.heap.size x _ (rx U hU) (Nat.le_refl _) sx)
    have IY := Lib.hid (fun (U : World) (hU : Below V.heap.size V U) => implZ_isCond U U.heap.size y _ (ry U hU) (Nat.le_refl _) sy)
    have IZ := Lib.hid (fun (U : World) (D : CondD) (us : List Value) (h : rdL U U.heap.size (CondD.c D) us) (hs : szE (CondD.c D) ≤ 100000000) (n : Bool) (hn : condB D = n) => show Calls Try.prog 18 #[.agg us.toArray] U fun e w' => e = .returned (.bool n) ∧ Below U.heap.size U w' from hn ▸ implZ_isCond U U.heap.size D us h (Nat.le_refl _) hs)
    have MA := Lib.hid (fun (U : World) (hU : Below V.heap.size V U) => show Calls Try.prog 15 #[.agg #[.int .i64 x.Op, .int .i64 x.A, .int .i64 x.B, .slice xA x.Args.length xc], .agg #[.int .i64 y.Op, .int .i64 y.A, .int .i64 y.B, .slice yA y.Args.length yc]] U fun e w' => ∃ A c, e = .returned (.agg #[.int .i64 8, .int .i64 0, .int .i64 0, .slice A 2 c]) ∧ Hid (rdL w' w'.heap.size (CondD.c (twoD 8 x y)) [.int .i64 8, .int .i64 0, .int .i64 0, .slice A 2 c]) ∧ Below U.heap.size U w' from
      (implZ_condAnd U U.heap.size x _ y _ (rx U hU) (ry U hU) (Nat.le_refl _) sx sy).mono fun e w' ⟨u, fp, he, ho, _, _, hb⟩ => by
        obtain ⟨A, c, rfl, hr⟩ := made_in ho
        exact ⟨A, c, he, hr, hb⟩)
    have MO := Lib.hid (fun (U : World) (hU : Below V.heap.size V U) => show Calls Try.prog 16 #[.agg #[.int .i64 x.Op, .int .i64 x.A, .int .i64 x.B, .slice xA x.Args.length xc], .agg #[.int .i64 y.Op, .int .i64 y.A, .int .i64 y.B, .slice yA y.Args.length yc]] U fun e w' => ∃ A c, e = .returned (.agg #[.int .i64 9, .int .i64 0, .int .i64 0, .slice A 2 c]) ∧ Hid (rdL w' w'.heap.size (CondD.c (twoD 9 x y)) [.int .i64 9, .int .i64 0, .int .i64 0, .slice A 2 c]) ∧ Below U.heap.size U w' from
      (implZ_condOr U U.heap.size x _ y _ (rx U hU) (ry U hU) (Nat.le_refl _) sx sy).mono fun e w' ⟨u, fp, he, ho, _, _, hb⟩ => by
        obtain ⟨A, c, rfl, hr⟩ := made_in ho
        exact ⟨A, c, he, hr, hb⟩)
    have MN := Lib.hid (fun (U : World) (hU : Below V.heap.size V U) => show Calls Try.prog 17 #[.agg #[.int .i64 x.Op, .int .i64 x.A, .int .i64 x.B, .slice xA x.Args.length xc]] U fun e w' => ∃ A c, e = .returned (.agg #[.int .i64 7, .int .i64 0, .int .i64 0, .slice A 1 c]) ∧ Hid (rdL w' w'.heap.size (CondD.c (notD x)) [.int .i64 7, .int .i64 0, .int .i64 0, .slice A 1 c]) ∧ Below U.heap.size U w' from
      (implZ_condNot U U.heap.size x _ (rx U hU) (Nat.le_refl _) sx).mono fun e w' ⟨u, fp, he, ho, _, _, hb⟩ => by
        obtain ⟨A, c, rfl, hr⟩ := made_in ho
        exact ⟨A, c, he, hr, hb⟩)
    have ML := Lib.hid (fun (U : World) (hU : Below V.heap.size V U) => show Calls Try.prog 19 #[.agg #[.int .i64 x.Op, .int .i64 x.A, .int .i64 x.B, .slice xA x.Args.length xc]] U fun e w' => ∃ A c, e = .returned (.slice A (leavesC [] x).length c) ∧ ((leavesC [] x).length ≤ c ∧ c ≤ maxLen) ∧ Hid (rdC w' w'.heap.size (rowF CondD.c (leavesC [] x)) (.slice A (leavesC [] x).length c)) ∧ Below U.heap.size U w' from
      (implZ_leavesOf U U.heap.size x _ (rx U hU) (Nat.le_refl _) sx).mono fun e w' ⟨u, fp, he, ho, _, _, hb⟩ => by
        obtain ⟨A, c, rfl, f1, f2⟩ := ho.form
        exact ⟨A, c, he, ⟨f1, f2⟩, Lib.hid (owC.read ho (owC.lt ho)), hb⟩)
    have QX := Lib.hid (fun (U : World) (hU : Below V.heap.size V U) => show Calls Try.prog 20 #[.agg #[.int .i64 x.Op, .int .i64 x.A, .int .i64 x.B, .slice xA x.Args.length xc], .agg #[.int .i64 x.Op, .int .i64 x.A, .int .i64 x.B, .slice xA x.Args.length xc]] U fun e w' => e = .returned (.bool true) ∧ Below U.heap.size U w' from eqC_self x ▸ implZ_equalConds U U.heap.size x _ x _ (rx U hU) (rx U hU) (Nat.le_refl _) sx sx)
    have hab := twoD_sz 8 x y
    have hob := twoD_sz 9 x y
    have hnb := notD_sz x
    have nab := twoD_size 8 x y
    have nob := twoD_size 9 x y
    have nnb := notD_size x
    have hAB := condB_and x y
    have HFEW := Lib.hid (leaves_few x)
    clear hrx hry rx ry
    have SAB := Lib.hid (show szE (CondD.c (twoD 8 x y)) ≤ 100000000 by omega)
    have SOB := Lib.hid (show szE (CondD.c (twoD 9 x y)) ≤ 100000000 by omega)
    have SNB := Lib.hid (show szE (CondD.c (notD x)) ≤ 100000000 by omega)
    have NAB := Lib.hid nab
    have NOB := Lib.hid nob
    have NNB := Lib.hid nnb
    have HAB := Lib.hid hAB
    clear hab hob hnb nab nob nnb hAB sx sy sx7 sy7
    have hR := Below.refl V.heap.size V
    generalize sizeD x = n1 at *
    generalize sizeD y = n2 at *
    generalize condB x = c1 at *
    generalize condB y = c2 at *
    have hw1 : IntKind.i64.wrap (n1 + n2) = n1 + n2 := by rw [IntKind.wrap_i64]; omega
    have hw2 : IntKind.i64.wrap (n1 + n2 + 1) = n1 + n2 + 1 := by rw [IntKind.wrap_i64]; omega
    have hw3 : IntKind.i64.wrap (n1 + 1) = n1 + 1 := by rw [IntKind.wrap_i64]; omega
    have hne1 : ((n1 + n2 + 1) != (n1 + n2 + 1)) = false := by simp
    have hne2 : ((n1 + 1) != (n1 + 1)) = false := by simp
    go_upto_region 4 with fail
    rw [← hV]
    clear hV
    have HC4 := Lib.hid (fun (uu : World) (hb : Below V.heap.size V uu) => (⟨blk_cell (blk_keep HX.out hb (blk_lt HX.out)) 0 rfl, blk_cell (blk_keep HX.out hb (blk_lt HX.out)) 1 rfl, blk_cell (blk_keep HX.out hb (blk_lt HX.out)) 2 rfl, blk_cell (blk_keep HX.out hb (blk_lt HX.out)) 3 rfl, blk_cell (blk_keep HY.out hb (blk_lt HY.out)) 0 rfl, blk_cell (blk_keep HY.out hb (blk_lt HY.out)) 1 rfl, blk_cell (blk_keep HY.out hb (blk_lt HY.out)) 2 rfl, blk_cell (blk_keep HY.out hb (blk_lt HY.out)) 3 rfl, hb⟩ : uu.cell? ⟨w1.heap.size, 0, none⟩ = some (.int .i64 x.Op) ∧ uu.cell? ⟨w1.heap.size, 1, none⟩ = some (.int .i64 x.A) ∧ uu.cell? ⟨w1.heap.size, 2, none⟩ = some (.int .i64 x.B) ∧ uu.cell? ⟨w1.heap.size, 3, none⟩ = some (.slice xA x.Args.length xc) ∧ uu.cell? ⟨w1.heap.size + 1, 0, none⟩ = some (.int .i64 y.Op) ∧ uu.cell? ⟨w1.heap.size + 1, 1, none⟩ = some (.int .i64 y.A) ∧ uu.cell? ⟨w1.heap.size + 1, 2, none⟩ = some (.int .i64 y.B) ∧ uu.cell? ⟨w1.heap.size + 1, 3, none⟩ = some (.slice yA y.Args.length yc) ∧ Below V.heap.size V uu))
    have hD4 := (hR).drew
    refine wp_region_held_drew (S := fun uu => uu.cell? ⟨w1.heap.size, 0, none⟩ = some (.int .i64 x.Op) ∧ uu.cell? ⟨w1.heap.size, 1, none⟩ = some (.int .i64 x.A) ∧ uu.cell? ⟨w1.heap.size, 2, none⟩ = some (.int .i64 x.B) ∧ uu.cell? ⟨w1.heap.size, 3, none⟩ = some (.slice xA x.Args.length xc) ∧ uu.cell? ⟨w1.heap.size + 1, 0, none⟩ = some (.int .i64 y.Op) ∧ uu.cell? ⟨w1.heap.size + 1, 1, none⟩ = some (.int .i64 y.A) ∧ uu.cell? ⟨w1.heap.size + 1, 2, none⟩ = some (.int .i64 y.B) ∧ uu.cell? ⟨w1.heap.size + 1, 3, none⟩ = some (.slice yA y.Args.length yc) ∧ Below V.heap.size V uu) (by kernel_rfl) (HC4.out _ hD4) (fun hHeld => ?_)
    refine wpAnyH_take (i := 0) (oi := ⟨some 16, _, _, _, _, _⟩) (v := ?_) rfl (by kernel_rfl) (by kernel_rfl) (by kernel_rfl) (fun _ _ _ h => h) (Or.inl ⟨by rfl, ?_⟩) (by assumption) ?_
    rotate_left
    · intro w hSw; (try dsimp only at hSw); go_simp <;> (with_reducible rfl)
    (try simp only [Act.put, List.setIfInBounds_toArray, List.set_cons_zero, List.set_cons_succ])
    refine wpAnyH_take (i := 2) (oi := ⟨some 18, _, _, _, _, _⟩) (v := ?_) rfl (by kernel_rfl) (by kernel_rfl) (by kernel_rfl) (fun _ _ _ h => h) (Or.inl ⟨by rfl, ?_⟩) (by assumption) ?_
    rotate_left
    · intro w hSw; (try dsimp only at hSw); go_simp <;> (with_reducible rfl)
    (try simp only [Act.put, List.setIfInBounds_toArray, List.set_cons_zero, List.set_cons_succ])
    refine wpAnyH_ready (rs := [1]) (by kernel_rfl) (by simp) ?_
    refine AllReadyH.cons (o := ⟨some 17, _, _, _, _, _⟩) rfl (fun K hK => ?_) AllReadyH.nil
    go_simp
    (with_reducible refine (CX.out _ hD4).mono ?_)
    rintro e17 u17 ⟨rfl, b17⟩
    have d17 : Below V.heap.size V u17 := hD4.trans (b17.mono hD4.size)
    refine hK.out _ _ (HC4.out _ d17) (fun hHeld2 => ?_)
    clear hK K
    (try simp only [Act.put, List.setIfInBounds_toArray, List.set_cons_zero, List.set_cons_succ])
    refine wpAnyH_ready (rs := [3]) (by kernel_rfl) (by simp) ?_
    refine AllReadyH.cons (o := ⟨some 19, _, _, _, _, _⟩) rfl (fun K hK => ?_) AllReadyH.nil
    go_simp
    (with_reducible refine (CY.out _ d17).mono ?_)
    rintro e19 u19 ⟨rfl, b19⟩
    have d19 : Below V.heap.size V u19 := d17.trans (b19.mono d17.size)
    refine hK.out _ _ (HC4.out _ d19) (fun hHeld2 => ?_)
    clear hK K
    (try simp only [Act.put, List.setIfInBounds_toArray, List.set_cons_zero, List.set_cons_succ])
    refine wpAnyH_take (i := 4) (oi := ⟨some 20, _, _, _, _, _⟩) (v := ?_) rfl (by kernel_rfl) (by kernel_rfl) (by kernel_rfl) (fun _ _ _ h => h) (Or.inl ⟨by rfl, ?_⟩) (by assumption) ?_
    rotate_left
    · intro w hSw; (try dsimp only at hSw); go_simp <;> (with_reducible rfl)
    (try simp only [Act.put, List.setIfInBounds_toArray, List.set_cons_zero, List.set_cons_succ])
    refine wpAnyH_take (i := 5) (oi := ⟨some 21, _, _, _, _, _⟩) (v := ?_) rfl (by kernel_rfl) (by kernel_rfl) (by kernel_rfl) (fun _ _ _ h => h) (Or.inl ⟨by rfl, ?_⟩) (by assumption) ?_
    rotate_left
    · intro w hSw; (try dsimp only at hSw); go_simp <;> (with_reducible rfl)
    (try simp only [Act.put, List.setIfInBounds_toArray, List.set_cons_zero, List.set_cons_succ])
    refine wpAnyH_take (i := 6) (oi := ⟨some 5, _, _, _, _, _⟩) (v := ?_) rfl (by kernel_rfl) (by kernel_rfl) (by kernel_rfl) (fun _ _ _ h => h) (Or.inl ⟨by rfl, ?_⟩) (by assumption) ?_
    rotate_left
    · intro w hSw; (try dsimp only at hSw); go_simp <;> (with_reducible rfl)
    (try simp only [Act.put, List.setIfInBounds_toArray, List.set_cons_zero, List.set_cons_succ])
    refine wpAnyH_done (by kernel_rfl) ?_ _
    go_upto_region 5 with fail
    try simp only [hw1, hw2]
    have HC5 := Lib.hid (fun (uu : World) (hb : Below V.heap.size V uu) => (⟨blk_cell (blk_keep HX.out hb (blk_lt HX.out)) 0 rfl, blk_cell (blk_keep HX.out hb (blk_lt HX.out)) 1 rfl, blk_cell (blk_keep HX.out hb (blk_lt HX.out)) 2 rfl, blk_cell (blk_keep HX.out hb (blk_lt HX.out)) 3 rfl, blk_cell (blk_keep HY.out hb (blk_lt HY.out)) 0 rfl, blk_cell (blk_keep HY.out hb (blk_lt HY.out)) 1 rfl, blk_cell (blk_keep HY.out hb (blk_lt HY.out)) 2 rfl, blk_cell (blk_keep HY.out hb (blk_lt HY.out)) 3 rfl, hb⟩ : uu.cell? ⟨w1.heap.size, 0, none⟩ = some (.int .i64 x.Op) ∧ uu.cell? ⟨w1.heap.size, 1, none⟩ = some (.int .i64 x.A) ∧ uu.cell? ⟨w1.heap.size, 2, none⟩ = some (.int .i64 x.B) ∧ uu.cell? ⟨w1.heap.size, 3, none⟩ = some (.slice xA x.Args.length xc) ∧ uu.cell? ⟨w1.heap.size + 1, 0, none⟩ = some (.int .i64 y.Op) ∧ uu.cell? ⟨w1.heap.size + 1, 1, none⟩ = some (.int .i64 y.A) ∧ uu.cell? ⟨w1.heap.size + 1, 2, none⟩ = some (.int .i64 y.B) ∧ uu.cell? ⟨w1.heap.size + 1, 3, none⟩ = some (.slice yA y.Args.length yc) ∧ Below V.heap.size V uu))
    have hD5 := (d19).drew
    refine wp_region_held_drew (S := fun uu => uu.cell? ⟨w1.heap.size, 0, none⟩ = some (.int .i64 x.Op) ∧ uu.cell? ⟨w1.heap.size, 1, none⟩ = some (.int .i64 x.A) ∧ uu.cell? ⟨w1.heap.size, 2, none⟩ = some (.int .i64 x.B) ∧ uu.cell? ⟨w1.heap.size, 3, none⟩ = some (.slice xA x.Args.length xc) ∧ uu.cell? ⟨w1.heap.size + 1, 0, none⟩ = some (.int .i64 y.Op) ∧ uu.cell? ⟨w1.heap.size + 1, 1, none⟩ = some (.int .i64 y.A) ∧ uu.cell? ⟨w1.heap.size + 1, 2, none⟩ = some (.int .i64 y.B) ∧ uu.cell? ⟨w1.heap.size + 1, 3, none⟩ = some (.slice yA y.Args.length yc) ∧ Below V.heap.size V uu) (by kernel_rfl) (HC5.out _ hD5) (fun hHeld => ?_)
    refine wpAnyH_take (i := 0) (oi := ⟨some 22, _, _, _, _, _⟩) (v := ?_) rfl (by kernel_rfl) (by kernel_rfl) (by kernel_rfl) (fun _ _ _ h => h) (Or.inl ⟨by rfl, ?_⟩) (by assumption) ?_
    rotate_left
    · intro w hSw; (try dsimp only at hSw); go_simp <;> (with_reducible rfl)
    (try simp only [Act.put, List.setIfInBounds_toArray, List.set_cons_zero, List.set_cons_succ])
    refine wpAnyH_take (i := 1) (oi := ⟨some 23, _, _, _, _, _⟩) (v := ?_) rfl (by kernel_rfl) (by kernel_rfl) (by kernel_rfl) (fun _ _ _ h => h) (Or.inl ⟨by rfl, ?_⟩) (by assumption) ?_
    rotate_left
    · intro w hSw; (try dsimp only at hSw); go_simp <;> (with_reducible rfl)
    (try simp only [Act.put, List.setIfInBounds_toArray, List.set_cons_zero, List.set_cons_succ])
    refine wpAnyH_take (i := 4) (oi := ⟨some 26, _, _, _, _, _⟩) (v := ?_) rfl (by kernel_rfl) (by kernel_rfl) (by kernel_rfl) (fun _ _ _ h => h) (Or.inl ⟨by rfl, ?_⟩) (by assumption) ?_
    rotate_left
    · intro w hSw; (try dsimp only at hSw); go_simp <;> (with_reducible rfl)
    (try simp only [Act.put, List.setIfInBounds_toArray, List.set_cons_zero, List.set_cons_succ])
    refine wpAnyH_ready (rs := [2]) (by kernel_rfl) (by simp) ?_
    refine AllReadyH.cons (o := ⟨some 24, _, _, _, _, _⟩) rfl (fun K hK => ?_) AllReadyH.nil
    go_simp
    (with_reducible refine (MA.out _ hD5).mono ?_)
    rintro e24 u24 ⟨A24, c24, rfl, h24, b24⟩
    have d24 : Below V.heap.size V u24 := hD5.trans (b24.mono hD5.size)
    refine hK.out _ _ (HC5.out _ d24) (fun hHeld2 => ?_)
    clear hK K
    (try simp only [Act.put, List.setIfInBounds_toArray, List.set_cons_zero, List.set_cons_succ])
    refine wpAnyH_ready (rs := [3]) (by kernel_rfl) (by simp) ?_
    refine AllReadyH.cons (o := ⟨some 25, _, _, _, _, _⟩) rfl (fun K hK => ?_) AllReadyH.nil
    go_simp
    (with_reducible refine (CZ.out _ (twoD 8 x y) _ h24.out SAB.out _ NAB.out).mono ?_)
    rintro e25 u25 ⟨rfl, b25⟩
    have d25 : Below V.heap.size V u25 := d24.trans (b25.mono d24.size)
    refine hK.out _ _ (HC5.out _ d25) (fun hHeld2 => ?_)
    clear hK K
    (try simp only [Act.put, List.setIfInBounds_toArray, List.set_cons_zero, List.set_cons_succ])
    refine wpAnyH_take (i := 5) (oi := ⟨some 27, _, _, _, _, _⟩) (v := ?_) rfl (by kernel_rfl) (by kernel_rfl) (by kernel_rfl) (fun _ _ _ h => h) (Or.inl ⟨by rfl, ?_⟩) (by assumption) ?_
    rotate_left
    · intro w hSw; (try dsimp only at hSw); go_simp <;> (with_reducible rfl)
    (try simp only [Act.put, List.setIfInBounds_toArray, List.set_cons_zero, List.set_cons_succ])
    refine wpAnyH_take (i := 6) (oi := ⟨some 28, _, _, _, _, _⟩) (v := ?_) rfl (by kernel_rfl) (by kernel_rfl) (by kernel_rfl) (fun _ _ _ h => h) (Or.inl ⟨by rfl, ?_⟩) (by assumption) ?_
    rotate_left
    · intro w hSw; (try dsimp only at hSw); go_simp <;> (with_reducible rfl)
    (try simp only [Act.put, List.setIfInBounds_toArray, List.set_cons_zero, List.set_cons_succ])
    refine wpAnyH_take (i := 7) (oi := ⟨some 29, _, _, _, _, _⟩) (v := ?_) rfl (by kernel_rfl) (by kernel_rfl) (by kernel_rfl) (fun _ _ _ h => h) (Or.inl ⟨by rfl, ?_⟩) (by assumption) ?_
    rotate_left
    · intro w hSw; (try dsimp only at hSw); go_simp <;> (with_reducible rfl)
    (try simp only [Act.put, List.setIfInBounds_toArray, List.set_cons_zero, List.set_cons_succ])
    refine wpAnyH_take (i := 8) (oi := ⟨some 30, _, _, _, _, _⟩) (v := ?_) rfl (by kernel_rfl) (by kernel_rfl) (by kernel_rfl) (fun _ _ _ h => h) (Or.inl ⟨by rfl, ?_⟩) (by assumption) ?_
    rotate_left
    · intro w hSw; (try dsimp only at hSw); go_simp <;> (with_reducible rfl)
    (try simp only [Act.put, List.setIfInBounds_toArray, List.set_cons_zero, List.set_cons_succ])
    refine wpAnyH_take (i := 11) (oi := ⟨some 33, _, _, _, _, _⟩) (v := ?_) rfl (by kernel_rfl) (by kernel_rfl) (by kernel_rfl) (fun _ _ _ h => h) (Or.inl ⟨by rfl, ?_⟩) (by assumption) ?_
    rotate_left
    · intro w hSw; (try dsimp only at hSw); go_simp <;> (with_reducible rfl)
    (try simp only [Act.put, List.setIfInBounds_toArray, List.set_cons_zero, List.set_cons_succ])
    refine wpAnyH_ready (rs := [9]) (by kernel_rfl) (by simp) ?_
    refine AllReadyH.cons (o := ⟨some 31, _, _, _, _, _⟩) rfl (fun K hK => ?_) AllReadyH.nil
    go_simp
    (with_reducible refine (MO.out _ d25).mono ?_)
    rintro e31 u31 ⟨A31, c31, rfl, h31, b31⟩
    have d31 : Below V.heap.size V u31 := d25.trans (b31.mono d25.size)
    refine hK.out _ _ (HC5.out _ d31) (fun hHeld2 => ?_)
    clear hK K
    (try simp only [Act.put, List.setIfInBounds_toArray, List.set_cons_zero, List.set_cons_succ])
    refine wpAnyH_ready (rs := [10]) (by kernel_rfl) (by simp) ?_
    refine AllReadyH.cons (o := ⟨some 32, _, _, _, _, _⟩) rfl (fun K hK => ?_) AllReadyH.nil
    go_simp
    (with_reducible refine (CZ.out _ (twoD 9 x y) _ h31.out SOB.out _ NOB.out).mono ?_)
    rintro e32 u32 ⟨rfl, b32⟩
    have d32 : Below V.heap.size V u32 := d31.trans (b32.mono d31.size)
    refine hK.out _ _ (HC5.out _ d32) (fun hHeld2 => ?_)
    clear hK K
    (try simp only [Act.put, List.setIfInBounds_toArray, List.set_cons_zero, List.set_cons_succ])
    refine wpAnyH_take (i := 12) (oi := ⟨some 34, _, _, _, _, _⟩) (v := ?_) rfl (by kernel_rfl) (by kernel_rfl) (by kernel_rfl) (fun _ _ _ h => h) (Or.inl ⟨by rfl, ?_⟩) (by assumption) ?_
    rotate_left
    · intro w hSw; (try dsimp only at hSw); go_simp <;> (with_reducible rfl)
    (try simp only [Act.put, List.setIfInBounds_toArray, List.set_cons_zero, List.set_cons_succ])
    refine wpAnyH_take (i := 13) (oi := ⟨some 35, _, _, _, _, _⟩) (v := ?_) rfl (by kernel_rfl) (by kernel_rfl) (by kernel_rfl) (fun _ _ _ h => h) (Or.inl ⟨by rfl, ?_⟩) (by assumption) ?_
    rotate_left
    · intro w hSw; (try dsimp only at hSw); go_simp <;> (with_reducible rfl)
    (try simp only [Act.put, List.setIfInBounds_toArray, List.set_cons_zero, List.set_cons_succ])
    refine wpAnyH_take (i := 14) (oi := ⟨some 36, _, _, _, _, _⟩) (v := ?_) rfl (by kernel_rfl) (by kernel_rfl) (by kernel_rfl) (fun _ _ _ h => h) (Or.inl ⟨by rfl, ?_⟩) (by assumption) ?_
    rotate_left
    · intro w hSw; (try dsimp only at hSw); go_simp <;> (with_reducible rfl)
    (try simp only [Act.put, List.setIfInBounds_toArray, List.set_cons_zero, List.set_cons_succ])
    refine wpAnyH_take (i := 15) (oi := ⟨some 37, _, _, _, _, _⟩) (v := ?_) rfl (by kernel_rfl) (by kernel_rfl) (by kernel_rfl) (fun _ _ _ h => h) (Or.inl ⟨by rfl, ?_⟩) (by assumption) ?_
    rotate_left
    · intro w hSw; (try dsimp only at hSw); go_simp <;> (with_reducible rfl)
    (try simp only [Act.put, List.setIfInBounds_toArray, List.set_cons_zero, List.set_cons_succ])
    refine wpAnyH_take (i := 18) (oi := ⟨some 40, _, _, _, _, _⟩) (v := ?_) rfl (by kernel_rfl) (by kernel_rfl) (by kernel_rfl) (fun _ _ _ h => h) (Or.inl ⟨by rfl, ?_⟩) (by assumption) ?_
    rotate_left
    · intro w hSw; (try dsimp only at hSw); go_simp <;> (with_reducible rfl)
    (try simp only [Act.put, List.setIfInBounds_toArray, List.set_cons_zero, List.set_cons_succ])
    refine wpAnyH_ready (rs := [16]) (by kernel_rfl) (by simp) ?_
    refine AllReadyH.cons (o := ⟨some 38, _, _, _, _, _⟩) rfl (fun K hK => ?_) AllReadyH.nil
    go_simp
    (with_reducible refine (MN.out _ d32).mono ?_)
    rintro e38 u38 ⟨A38, c38, rfl, h38, b38⟩
    have d38 : Below V.heap.size V u38 := d32.trans (b38.mono d32.size)
    refine hK.out _ _ (HC5.out _ d38) (fun hHeld2 => ?_)
    clear hK K
    (try simp only [Act.put, List.setIfInBounds_toArray, List.set_cons_zero, List.set_cons_succ])
    refine wpAnyH_ready (rs := [17]) (by kernel_rfl) (by simp) ?_
    refine AllReadyH.cons (o := ⟨some 39, _, _, _, _, _⟩) rfl (fun K hK => ?_) AllReadyH.nil
    go_simp
    (with_reducible refine (CZ.out _ (notD x) _ h38.out SNB.out _ NNB.out).mono ?_)
    rintro e39 u39 ⟨rfl, b39⟩
    have d39 : Below V.heap.size V u39 := d38.trans (b39.mono d38.size)
    refine hK.out _ _ (HC5.out _ d39) (fun hHeld2 => ?_)
    clear hK K
    (try simp only [Act.put, List.setIfInBounds_toArray, List.set_cons_zero, List.set_cons_succ])
    refine wpAnyH_ready (rs := [19]) (by kernel_rfl) (by simp) ?_
    refine AllReadyH.cons (o := ⟨some 41, _, _, _, _, _⟩) rfl (fun K hK => ?_) AllReadyH.nil
    go_simp
    (with_reducible refine (CX.out _ d39).mono ?_)
    rintro e41 u41 ⟨rfl, b41⟩
    have d41 : Below V.heap.size V u41 := d39.trans (b41.mono d39.size)
    refine hK.out _ _ (HC5.out _ d41) (fun hHeld2 => ?_)
    clear hK K
    (try simp only [Act.put, List.setIfInBounds_toArray, List.set_cons_zero, List.set_cons_succ])
    refine wpAnyH_take (i := 20) (oi := ⟨some 42, _, _, _, _, _⟩) (v := ?_) rfl (by kernel_rfl) (by kernel_rfl) (by kernel_rfl) (fun _ _ _ h => h) (Or.inl ⟨by rfl, ?_⟩) (by assumption) ?_
    rotate_left
    · intro w hSw; (try dsimp only at hSw); go_simp <;> (with_reducible rfl)
    (try simp only [Act.put, List.setIfInBounds_toArray, List.set_cons_zero, List.set_cons_succ])
    refine wpAnyH_take (i := 21) (oi := ⟨some 43, _, _, _, _, _⟩) (v := ?_) rfl (by kernel_rfl) (by kernel_rfl) (by kernel_rfl) (fun _ _ _ h => h) (Or.inl ⟨by rfl, ?_⟩) (by assumption) ?_
    rotate_left
    · intro w hSw; (try dsimp only at hSw); go_simp <;> (with_reducible rfl)
    (try simp only [Act.put, List.setIfInBounds_toArray, List.set_cons_zero, List.set_cons_succ])
    refine wpAnyH_take (i := 22) (oi := ⟨some 44, _, _, _, _, _⟩) (v := ?_) rfl (by kernel_rfl) (by kernel_rfl) (by kernel_rfl) (fun _ _ _ h => h) (Or.inl ⟨by rfl, ?_⟩) (by assumption) ?_
    rotate_left
    · intro w hSw; (try dsimp only at hSw); go_simp <;> (with_reducible rfl)
    (try simp only [Act.put, List.setIfInBounds_toArray, List.set_cons_zero, List.set_cons_succ])
    refine wpAnyH_done (by kernel_rfl) ?_ _
    go_upto_region 7 with fail
    try simp only [hw1, hw2, hw3]
    go_cut [59] (fun c wx => c = .bool false ∧ Hid (Below V.heap.size V wx))
    case first =>
      clear CX CY CZ MO MN ML QX HFEW NAB NOB NNB SOB SNB
      cases c1
      · have HAB2 := Lib.hid (show condB (twoD 8 x y) = false by rw [HAB.out]; rfl)
        have HC7 := Lib.hid (fun (uu : World) (hb : Below V.heap.size V uu) => (⟨blk_cell (blk_keep HX.out hb (blk_lt HX.out)) 0 rfl, blk_cell (blk_keep HX.out hb (blk_lt HX.out)) 1 rfl, blk_cell (blk_keep HX.out hb (blk_lt HX.out)) 2 rfl, blk_cell (blk_keep HX.out hb (blk_lt HX.out)) 3 rfl, blk_cell (blk_keep HY.out hb (blk_lt HY.out)) 0 rfl, blk_cell (blk_keep HY.out hb (blk_lt HY.out)) 1 rfl, blk_cell (blk_keep HY.out hb (blk_lt HY.out)) 2 rfl, blk_cell (blk_keep HY.out hb (blk_lt HY.out)) 3 rfl, hb⟩ : uu.cell? ⟨w1.heap.size, 0, none⟩ = some (.int .i64 x.Op) ∧ uu.cell? ⟨w1.heap.size, 1, none⟩ = some (.int .i64 x.A) ∧ uu.cell? ⟨w1.heap.size, 2, none⟩ = some (.int .i64 x.B) ∧ uu.cell? ⟨w1.heap.size, 3, none⟩ = some (.slice xA x.Args.length xc) ∧ uu.cell? ⟨w1.heap.size + 1, 0, none⟩ = some (.int .i64 y.Op) ∧ uu.cell? ⟨w1.heap.size + 1, 1, none⟩ = some (.int .i64 y.A) ∧ uu.cell? ⟨w1.heap.size + 1, 2, none⟩ = some (.int .i64 y.B) ∧ uu.cell? ⟨w1.heap.size + 1, 3, none⟩ = some (.slice yA y.Args.length yc) ∧ Below V.heap.size V uu))
        have hD7 := (d41).drew
        refine wp_region_held_drew (S := fun uu => uu.cell? ⟨w1.heap.size, 0, none⟩ = some (.int .i64 x.Op) ∧ uu.cell? ⟨w1.heap.size, 1, none⟩ = some (.int .i64 x.A) ∧ uu.cell? ⟨w1.heap.size, 2, none⟩ = some (.int .i64 x.B) ∧ uu.cell? ⟨w1.heap.size, 3, none⟩ = some (.slice xA x.Args.length xc) ∧ uu.cell? ⟨w1.heap.size + 1, 0, none⟩ = some (.int .i64 y.Op) ∧ uu.cell? ⟨w1.heap.size + 1, 1, none⟩ = some (.int .i64 y.A) ∧ uu.cell? ⟨w1.heap.size + 1, 2, none⟩ = some (.int .i64 y.B) ∧ uu.cell? ⟨w1.heap.size + 1, 3, none⟩ = some (.slice yA y.Args.length yc) ∧ Below V.heap.size V uu) (by kernel_rfl) (HC7.out _ hD7) (fun hHeld => ?_)
        refine wpAnyH_take (i := 0) (oi := ⟨some 45, _, _, _, _, _⟩) (v := ?_) rfl (by kernel_rfl) (by kernel_rfl) (by kernel_rfl) (fun _ _ _ h => h) (Or.inl ⟨by rfl, ?_⟩) (by assumption) ?_
        rotate_left
        · intro w hSw; (try dsimp only at hSw); go_simp <;> (with_reducible rfl)
        (try simp only [Act.put, List.setIfInBounds_toArray, List.set_cons_zero, List.set_cons_succ])
        refine wpAnyH_take (i := 1) (oi := ⟨some 46, _, _, _, _, _⟩) (v := ?_) rfl (by kernel_rfl) (by kernel_rfl) (by kernel_rfl) (fun _ _ _ h => h) (Or.inl ⟨by rfl, ?_⟩) (by assumption) ?_
        rotate_left
        · intro w hSw; (try dsimp only at hSw); go_simp <;> (with_reducible rfl)
        (try simp only [Act.put, List.setIfInBounds_toArray, List.set_cons_zero, List.set_cons_succ])
        refine wpAnyH_take (i := 4) (oi := ⟨some 49, _, _, _, _, _⟩) (v := ?_) rfl (by kernel_rfl) (by kernel_rfl) (by kernel_rfl) (fun _ _ _ h => h) (Or.inl ⟨by rfl, ?_⟩) (by assumption) ?_
        rotate_left
        · intro w hSw; (try dsimp only at hSw); go_simp <;> (with_reducible rfl)
        (try simp only [Act.put, List.setIfInBounds_toArray, List.set_cons_zero, List.set_cons_succ])
        refine wpAnyH_ready (rs := [2]) (by kernel_rfl) (by simp) ?_
        refine AllReadyH.cons (o := ⟨some 47, _, _, _, _, _⟩) rfl (fun K hK => ?_) AllReadyH.nil
        go_simp
        (with_reducible refine (MA.out _ hD7).mono ?_)
        rintro e47 u47 ⟨A47, c47, rfl, h47, b47⟩
        have d47 : Below V.heap.size V u47 := hD7.trans (b47.mono hD7.size)
        refine hK.out _ _ (HC7.out _ d47) (fun hHeld2 => ?_)
        clear hK K
        (try simp only [Act.put, List.setIfInBounds_toArray, List.set_cons_zero, List.set_cons_succ])
        refine wpAnyH_ready (rs := [3]) (by kernel_rfl) (by simp) ?_
        refine AllReadyH.cons (o := ⟨some 48, _, _, _, _, _⟩) rfl (fun K hK => ?_) AllReadyH.nil
        go_simp
        (with_reducible refine (IZ.out _ (twoD 8 x y) _ h47.out SAB.out _ HAB2.out).mono ?_)
        rintro e48 u48 ⟨rfl, b48⟩
        have d48 : Below V.heap.size V u48 := d47.trans (b48.mono d47.size)
        refine hK.out _ _ (HC7.out _ d48) (fun hHeld2 => ?_)
        clear hK K
        (try simp only [Act.put, List.setIfInBounds_toArray, List.set_cons_zero, List.set_cons_succ])
        refine wpAnyH_ready (rs := [5]) (by kernel_rfl) (by simp) ?_
        refine AllReadyH.cons (o := ⟨some 50, _, _, _, _, _⟩) rfl (fun K hK => ?_) AllReadyH.nil
        go_simp
        (with_reducible refine (IX.out _ d48).mono ?_)
        rintro e50 u50 ⟨rfl, b50⟩
        have d50 : Below V.heap.size V u50 := d48.trans (b50.mono d48.size)
        refine hK.out _ _ (HC7.out _ d50) (fun hHeld2 => ?_)
        clear hK K
        (try simp only [Act.put, List.setIfInBounds_toArray, List.set_cons_zero, List.set_cons_succ])
        refine wpAnyH_take (i := 6) (oi := ⟨some 51, _, _, _, _, _⟩) (v := ?_) rfl (by kernel_rfl) (by kernel_rfl) (by kernel_rfl) (fun _ _ _ h => h) (Or.inl ⟨by rfl, ?_⟩) (by assumption) ?_
        rotate_left
        · intro w hSw; (try dsimp only at hSw); go_simp <;> (with_reducible rfl)
        (try simp only [Act.put, List.setIfInBounds_toArray, List.set_cons_zero, List.set_cons_succ])
        refine wpAnyH_take (i := 7) (oi := ⟨some 52, _, _, _, _, _⟩) (v := undef) rfl (by kernel_rfl) (by kernel_rfl) (by kernel_rfl) (fun _ _ _ h => h) (.inr ⟨by rfl, rfl⟩) (by assumption) ?_
        (try simp only [Act.put, List.setIfInBounds_toArray, List.set_cons_zero, List.set_cons_succ])
        refine wpAnyH_take (i := 8) (oi := ⟨some 53, _, _, _, _, _⟩) (v := undef) rfl (by kernel_rfl) (by kernel_rfl) (by kernel_rfl) (fun _ _ _ h => h) (.inr ⟨by rfl, rfl⟩) (by assumption) ?_
        (try simp only [Act.put, List.setIfInBounds_toArray, List.set_cons_zero, List.set_cons_succ])
        refine wpAnyH_take (i := 9) (oi := ⟨some 54, _, _, _, _, _⟩) (v := ?_) rfl (by kernel_rfl) (by kernel_rfl) (by kernel_rfl) (fun _ _ _ h => h) (Or.inl ⟨by rfl, ?_⟩) (by assumption) ?_
        rotate_left
        · intro w hSw; (try dsimp only at hSw); go_simp <;> (with_reducible rfl)
        (try simp only [Act.put, List.setIfInBounds_toArray, List.set_cons_zero, List.set_cons_succ])
        refine wpAnyH_take (i := 10) (oi := ⟨some 55, _, _, _, _, _⟩) (v := ?_) rfl (by kernel_rfl) (by kernel_rfl) (by kernel_rfl) (fun _ _ _ h => h) (Or.inl ⟨by rfl, ?_⟩) (by assumption) ?_
        rotate_left
        · intro w hSw; (try dsimp only at hSw); go_simp <;> (with_reducible rfl)
        (try simp only [Act.put, List.setIfInBounds_toArray, List.set_cons_zero, List.set_cons_succ])
        refine wpAnyH_take (i := 11) (oi := ⟨some 56, _, _, _, _, _⟩) (v := undef) rfl (by kernel_rfl) (by kernel_rfl) (by kernel_rfl) (fun _ _ _ h => h) (.inr ⟨by rfl, rfl⟩) (by assumption) ?_
        (try simp only [Act.put, List.setIfInBounds_toArray, List.set_cons_zero, List.set_cons_succ])
        refine wpAnyH_take (i := 12) (oi := ⟨some 57, _, _, _, _, _⟩) (v := undef) rfl (by kernel_rfl) (by kernel_rfl) (by kernel_rfl) (fun _ _ _ h => h) (.inr ⟨by rfl, rfl⟩) (by assumption) ?_
        (try simp only [Act.put, List.setIfInBounds_toArray, List.set_cons_zero, List.set_cons_succ])
        refine wpAnyH_take (i := 13) (oi := ⟨some 58, _, _, _, _, _⟩) (v := ?_) rfl (by kernel_rfl) (by kernel_rfl) (by kernel_rfl) (fun _ _ _ h => h) (Or.inl ⟨by rfl, ?_⟩) (by assumption) ?_
        rotate_left
        · intro w hSw; (try dsimp only at hSw); go_simp <;> (with_reducible rfl)
        (try simp only [Act.put, List.setIfInBounds_toArray, List.set_cons_zero, List.set_cons_succ])
        refine wpAnyH_take (i := 14) (oi := ⟨some 59, _, _, _, _, _⟩) (v := ?_) rfl (by kernel_rfl) (by kernel_rfl) (by kernel_rfl) (fun _ _ _ h => h) (Or.inl ⟨by rfl, ?_⟩) (by assumption) ?_
        rotate_left
        · intro w hSw; (try dsimp only at hSw); go_simp <;> (with_reducible rfl)
        (try simp only [Act.put, List.setIfInBounds_toArray, List.set_cons_zero, List.set_cons_succ])
        refine wpAnyH_done (by kernel_rfl) ?_ _
        go_wp2
        go_meet
        exact ⟨rfl, Lib.hid d50⟩
      · cases c2
        · have HAB2 := Lib.hid (show condB (twoD 8 x y) = false by rw [HAB.out]; rfl)
          have HC7 := Lib.hid (fun (uu : World) (hb : Below V.heap.size V uu) => (⟨blk_cell (blk_keep HX.out hb (blk_lt HX.out)) 0 rfl, blk_cell (blk_keep HX.out hb (blk_lt HX.out)) 1 rfl, blk_cell (blk_keep HX.out hb (blk_lt HX.out)) 2 rfl, blk_cell (blk_keep HX.out hb (blk_lt HX.out)) 3 rfl, blk_cell (blk_keep HY.out hb (blk_lt HY.out)) 0 rfl, blk_cell (blk_keep HY.out hb (blk_lt HY.out)) 1 rfl, blk_cell (blk_keep HY.out hb (blk_lt HY.out)) 2 rfl, blk_cell (blk_keep HY.out hb (blk_lt HY.out)) 3 rfl, hb⟩ : uu.cell? ⟨w1.heap.size, 0, none⟩ = some (.int .i64 x.Op) ∧ uu.cell? ⟨w1.heap.size, 1, none⟩ = some (.int .i64 x.A) ∧ uu.cell? ⟨w1.heap.size, 2, none⟩ = some (.int .i64 x.B) ∧ uu.cell? ⟨w1.heap.size, 3, none⟩ = some (.slice xA x.Args.length xc) ∧ uu.cell? ⟨w1.heap.size + 1, 0, none⟩ = some (.int .i64 y.Op) ∧ uu.cell? ⟨w1.heap.size + 1, 1, none⟩ = some (.int .i64 y.A) ∧ uu.cell? ⟨w1.heap.size + 1, 2, none⟩ = some (.int .i64 y.B) ∧ uu.cell? ⟨w1.heap.size + 1, 3, none⟩ = some (.slice yA y.Args.length yc) ∧ Below V.heap.size V uu))
          have hD7 := (d41).drew
          refine wp_region_held_drew (S := fun uu => uu.cell? ⟨w1.heap.size, 0, none⟩ = some (.int .i64 x.Op) ∧ uu.cell? ⟨w1.heap.size, 1, none⟩ = some (.int .i64 x.A) ∧ uu.cell? ⟨w1.heap.size, 2, none⟩ = some (.int .i64 x.B) ∧ uu.cell? ⟨w1.heap.size, 3, none⟩ = some (.slice xA x.Args.length xc) ∧ uu.cell? ⟨w1.heap.size + 1, 0, none⟩ = some (.int .i64 y.Op) ∧ uu.cell? ⟨w1.heap.size + 1, 1, none⟩ = some (.int .i64 y.A) ∧ uu.cell? ⟨w1.heap.size + 1, 2, none⟩ = some (.int .i64 y.B) ∧ uu.cell? ⟨w1.heap.size + 1, 3, none⟩ = some (.slice yA y.Args.length yc) ∧ Below V.heap.size V uu) (by kernel_rfl) (HC7.out _ hD7) (fun hHeld => ?_)
          refine wpAnyH_take (i := 0) (oi := ⟨some 45, _, _, _, _, _⟩) (v := ?_) rfl (by kernel_rfl) (by kernel_rfl) (by kernel_rfl) (fun _ _ _ h => h) (Or.inl ⟨by rfl, ?_⟩) (by assumption) ?_
          rotate_left
          · intro w hSw; (try dsimp only at hSw); go_simp <;> (with_reducible rfl)
          (try simp only [Act.put, List.setIfInBounds_toArray, List.set_cons_zero, List.set_cons_succ])
          refine wpAnyH_take (i := 1) (oi := ⟨some 46, _, _, _, _, _⟩) (v := ?_) rfl (by kernel_rfl) (by kernel_rfl) (by kernel_rfl) (fun _ _ _ h => h) (Or.inl ⟨by rfl, ?_⟩) (by assumption) ?_
          rotate_left
          · intro w hSw; (try dsimp only at hSw); go_simp <;> (with_reducible rfl)
          (try simp only [Act.put, List.setIfInBounds_toArray, List.set_cons_zero, List.set_cons_succ])
          refine wpAnyH_take (i := 4) (oi := ⟨some 49, _, _, _, _, _⟩) (v := ?_) rfl (by kernel_rfl) (by kernel_rfl) (by kernel_rfl) (fun _ _ _ h => h) (Or.inl ⟨by rfl, ?_⟩) (by assumption) ?_
          rotate_left
          · intro w hSw; (try dsimp only at hSw); go_simp <;> (with_reducible rfl)
          (try simp only [Act.put, List.setIfInBounds_toArray, List.set_cons_zero, List.set_cons_succ])
          refine wpAnyH_ready (rs := [2]) (by kernel_rfl) (by simp) ?_
          refine AllReadyH.cons (o := ⟨some 47, _, _, _, _, _⟩) rfl (fun K hK => ?_) AllReadyH.nil
          go_simp
          (with_reducible refine (MA.out _ hD7).mono ?_)
          rintro e47 u47 ⟨A47, c47, rfl, h47, b47⟩
          have d47 : Below V.heap.size V u47 := hD7.trans (b47.mono hD7.size)
          refine hK.out _ _ (HC7.out _ d47) (fun hHeld2 => ?_)
          clear hK K
          (try simp only [Act.put, List.setIfInBounds_toArray, List.set_cons_zero, List.set_cons_succ])
          refine wpAnyH_ready (rs := [3]) (by kernel_rfl) (by simp) ?_
          refine AllReadyH.cons (o := ⟨some 48, _, _, _, _, _⟩) rfl (fun K hK => ?_) AllReadyH.nil
          go_simp
          (with_reducible refine (IZ.out _ (twoD 8 x y) _ h47.out SAB.out _ HAB2.out).mono ?_)
          rintro e48 u48 ⟨rfl, b48⟩
          have d48 : Below V.heap.size V u48 := d47.trans (b48.mono d47.size)
          refine hK.out _ _ (HC7.out _ d48) (fun hHeld2 => ?_)
          clear hK K
          (try simp only [Act.put, List.setIfInBounds_toArray, List.set_cons_zero, List.set_cons_succ])
          refine wpAnyH_ready (rs := [5]) (by kernel_rfl) (by simp) ?_
          refine AllReadyH.cons (o := ⟨some 50, _, _, _, _, _⟩) rfl (fun K hK => ?_) AllReadyH.nil
          go_simp
          (with_reducible refine (IX.out _ d48).mono ?_)
          rintro e50 u50 ⟨rfl, b50⟩
          have d50 : Below V.heap.size V u50 := d48.trans (b50.mono d48.size)
          refine hK.out _ _ (HC7.out _ d50) (fun hHeld2 => ?_)
          clear hK K
          (try simp only [Act.put, List.setIfInBounds_toArray, List.set_cons_zero, List.set_cons_succ])
          refine wpAnyH_take (i := 6) (oi := ⟨some 51, _, _, _, _, _⟩) (v := ?_) rfl (by kernel_rfl) (by kernel_rfl) (by kernel_rfl) (fun _ _ _ h => h) (Or.inl ⟨by rfl, ?_⟩) (by assumption) ?_
          rotate_left
          · intro w hSw; (try dsimp only at hSw); go_simp <;> (with_reducible rfl)
          (try simp only [Act.put, List.setIfInBounds_toArray, List.set_cons_zero, List.set_cons_succ])
          refine wpAnyH_take (i := 7) (oi := ⟨some 52, _, _, _, _, _⟩) (v := ?_) rfl (by kernel_rfl) (by kernel_rfl) (by kernel_rfl) (fun _ _ _ h => h) (Or.inl ⟨by rfl, ?_⟩) (by assumption) ?_
          rotate_left
          · intro w hSw; (try dsimp only at hSw); go_simp <;> (with_reducible rfl)
          (try simp only [Act.put, List.setIfInBounds_toArray, List.set_cons_zero, List.set_cons_succ])
          refine wpAnyH_ready (rs := [8]) (by kernel_rfl) (by simp) ?_
          refine AllReadyH.cons (o := ⟨some 53, _, _, _, _, _⟩) rfl (fun K hK => ?_) AllReadyH.nil
          go_simp
          (with_reducible refine (IY.out _ d50).mono ?_)
          rintro e53 u53 ⟨rfl, b53⟩
          have d53 : Below V.heap.size V u53 := d50.trans (b53.mono d50.size)
          refine hK.out _ _ (HC7.out _ d53) (fun hHeld2 => ?_)
          clear hK K
          (try simp only [Act.put, List.setIfInBounds_toArray, List.set_cons_zero, List.set_cons_succ])
          refine wpAnyH_take (i := 9) (oi := ⟨some 54, _, _, _, _, _⟩) (v := ?_) rfl (by kernel_rfl) (by kernel_rfl) (by kernel_rfl) (fun _ _ _ h => h) (Or.inl ⟨by rfl, ?_⟩) (by assumption) ?_
          rotate_left
          · intro w hSw; (try dsimp only at hSw); go_simp <;> (with_reducible rfl)
          (try simp only [Act.put, List.setIfInBounds_toArray, List.set_cons_zero, List.set_cons_succ])
          refine wpAnyH_take (i := 10) (oi := ⟨some 55, _, _, _, _, _⟩) (v := ?_) rfl (by kernel_rfl) (by kernel_rfl) (by kernel_rfl) (fun _ _ _ h => h) (Or.inl ⟨by rfl, ?_⟩) (by assumption) ?_
          rotate_left
          · intro w hSw; (try dsimp only at hSw); go_simp <;> (with_reducible rfl)
          (try simp only [Act.put, List.setIfInBounds_toArray, List.set_cons_zero, List.set_cons_succ])
          refine wpAnyH_take (i := 11) (oi := ⟨some 56, _, _, _, _, _⟩) (v := undef) rfl (by kernel_rfl) (by kernel_rfl) (by kernel_rfl) (fun _ _ _ h => h) (.inr ⟨by rfl, rfl⟩) (by assumption) ?_
          (try simp only [Act.put, List.setIfInBounds_toArray, List.set_cons_zero, List.set_cons_succ])
          refine wpAnyH_take (i := 12) (oi := ⟨some 57, _, _, _, _, _⟩) (v := undef) rfl (by kernel_rfl) (by kernel_rfl) (by kernel_rfl) (fun _ _ _ h => h) (.inr ⟨by rfl, rfl⟩) (by assumption) ?_
          (try simp only [Act.put, List.setIfInBounds_toArray, List.set_cons_zero, List.set_cons_succ])
          refine wpAnyH_take (i := 13) (oi := ⟨some 58, _, _, _, _, _⟩) (v := ?_) rfl (by kernel_rfl) (by kernel_rfl) (by kernel_rfl) (fun _ _ _ h => h) (Or.inl ⟨by rfl, ?_⟩) (by assumption) ?_
          rotate_left
          · intro w hSw; (try dsimp only at hSw); go_simp <;> (with_reducible rfl)
          (try simp only [Act.put, List.setIfInBounds_toArray, List.set_cons_zero, List.set_cons_succ])
          refine wpAnyH_take (i := 14) (oi := ⟨some 59, _, _, _, _, _⟩) (v := ?_) rfl (by kernel_rfl) (by kernel_rfl) (by kernel_rfl) (fun _ _ _ h => h) (Or.inl ⟨by rfl, ?_⟩) (by assumption) ?_
          rotate_left
          · intro w hSw; (try dsimp only at hSw); go_simp <;> (with_reducible rfl)
          (try simp only [Act.put, List.setIfInBounds_toArray, List.set_cons_zero, List.set_cons_succ])
          refine wpAnyH_done (by kernel_rfl) ?_ _
          go_wp2
          go_meet
          exact ⟨rfl, Lib.hid d53⟩
        · by_cases hle : n1 + n2 + 1 ≤ 15
          · have hdc : decide (n1 + n2 + 1 ≤ 15) = true := decide_eq_true hle
            have HAB2 := Lib.hid (show condB (twoD 8 x y) = true by rw [HAB.out, hdc]; rfl)
            have HC7 := Lib.hid (fun (uu : World) (hb : Below V.heap.size V uu) => (⟨blk_cell (blk_keep HX.out hb (blk_lt HX.out)) 0 rfl, blk_cell (blk_keep HX.out hb (blk_lt HX.out)) 1 rfl, blk_cell (blk_keep HX.out hb (blk_lt HX.out)) 2 rfl, blk_cell (blk_keep HX.out hb (blk_lt HX.out)) 3 rfl, blk_cell (blk_keep HY.out hb (blk_lt HY.out)) 0 rfl, blk_cell (blk_keep HY.out hb (blk_lt HY.out)) 1 rfl, blk_cell (blk_keep HY.out hb (blk_lt HY.out)) 2 rfl, blk_cell (blk_keep HY.out hb (blk_lt HY.out)) 3 rfl, hb⟩ : uu.cell? ⟨w1.heap.size, 0, none⟩ = some (.int .i64 x.Op) ∧ uu.cell? ⟨w1.heap.size, 1, none⟩ = some (.int .i64 x.A) ∧ uu.cell? ⟨w1.heap.size, 2, none⟩ = some (.int .i64 x.B) ∧ uu.cell? ⟨w1.heap.size, 3, none⟩ = some (.slice xA x.Args.length xc) ∧ uu.cell? ⟨w1.heap.size + 1, 0, none⟩ = some (.int .i64 y.Op) ∧ uu.cell? ⟨w1.heap.size + 1, 1, none⟩ = some (.int .i64 y.A) ∧ uu.cell? ⟨w1.heap.size + 1, 2, none⟩ = some (.int .i64 y.B) ∧ uu.cell? ⟨w1.heap.size + 1, 3, none⟩ = some (.slice yA y.Args.length yc) ∧ Below V.heap.size V uu))
            have hD7 := (d41).drew
            refine wp_region_held_drew (S := fun uu => uu.cell? ⟨w1.heap.size, 0, none⟩ = some (.int .i64 x.Op) ∧ uu.cell? ⟨w1.heap.size, 1, none⟩ = some (.int .i64 x.A) ∧ uu.cell? ⟨w1.heap.size, 2, none⟩ = some (.int .i64 x.B) ∧ uu.cell? ⟨w1.heap.size, 3, none⟩ = some (.slice xA x.Args.length xc) ∧ uu.cell? ⟨w1.heap.size + 1, 0, none⟩ = some (.int .i64 y.Op) ∧ uu.cell? ⟨w1.heap.size + 1, 1, none⟩ = some (.int .i64 y.A) ∧ uu.cell? ⟨w1.heap.size + 1, 2, none⟩ = some (.int .i64 y.B) ∧ uu.cell? ⟨w1.heap.size + 1, 3, none⟩ = some (.slice yA y.Args.length yc) ∧ Below V.heap.size V uu) (by kernel_rfl) (HC7.out _ hD7) (fun hHeld => ?_)
            refine wpAnyH_take (i := 0) (oi := ⟨some 45, _, _, _, _, _⟩) (v := ?_) rfl (by kernel_rfl) (by kernel_rfl) (by kernel_rfl) (fun _ _ _ h => h) (Or.inl ⟨by rfl, ?_⟩) (by assumption) ?_
            rotate_left
            · intro w hSw; (try dsimp only at hSw); go_simp <;> (with_reducible rfl)
            (try simp only [Act.put, List.setIfInBounds_toArray, List.set_cons_zero, List.set_cons_succ])
            refine wpAnyH_take (i := 1) (oi := ⟨some 46, _, _, _, _, _⟩) (v := ?_) rfl (by kernel_rfl) (by kernel_rfl) (by kernel_rfl) (fun _ _ _ h => h) (Or.inl ⟨by rfl, ?_⟩) (by assumption) ?_
            rotate_left
            · intro w hSw; (try dsimp only at hSw); go_simp <;> (with_reducible rfl)
            (try simp only [Act.put, List.setIfInBounds_toArray, List.set_cons_zero, List.set_cons_succ])
            refine wpAnyH_take (i := 4) (oi := ⟨some 49, _, _, _, _, _⟩) (v := ?_) rfl (by kernel_rfl) (by kernel_rfl) (by kernel_rfl) (fun _ _ _ h => h) (Or.inl ⟨by rfl, ?_⟩) (by assumption) ?_
            rotate_left
            · intro w hSw; (try dsimp only at hSw); go_simp <;> (with_reducible rfl)
            (try simp only [Act.put, List.setIfInBounds_toArray, List.set_cons_zero, List.set_cons_succ])
            refine wpAnyH_ready (rs := [2]) (by kernel_rfl) (by simp) ?_
            refine AllReadyH.cons (o := ⟨some 47, _, _, _, _, _⟩) rfl (fun K hK => ?_) AllReadyH.nil
            go_simp
            (with_reducible refine (MA.out _ hD7).mono ?_)
            rintro e47 u47 ⟨A47, c47, rfl, h47, b47⟩
            have d47 : Below V.heap.size V u47 := hD7.trans (b47.mono hD7.size)
            refine hK.out _ _ (HC7.out _ d47) (fun hHeld2 => ?_)
            clear hK K
            (try simp only [Act.put, List.setIfInBounds_toArray, List.set_cons_zero, List.set_cons_succ])
            refine wpAnyH_ready (rs := [3]) (by kernel_rfl) (by simp) ?_
            refine AllReadyH.cons (o := ⟨some 48, _, _, _, _, _⟩) rfl (fun K hK => ?_) AllReadyH.nil
            go_simp
            (with_reducible refine (IZ.out _ (twoD 8 x y) _ h47.out SAB.out _ HAB2.out).mono ?_)
            rintro e48 u48 ⟨rfl, b48⟩
            have d48 : Below V.heap.size V u48 := d47.trans (b48.mono d47.size)
            refine hK.out _ _ (HC7.out _ d48) (fun hHeld2 => ?_)
            clear hK K
            (try simp only [Act.put, List.setIfInBounds_toArray, List.set_cons_zero, List.set_cons_succ])
            refine wpAnyH_ready (rs := [5]) (by kernel_rfl) (by simp) ?_
            refine AllReadyH.cons (o := ⟨some 50, _, _, _, _, _⟩) rfl (fun K hK => ?_) AllReadyH.nil
            go_simp
            (with_reducible refine (IX.out _ d48).mono ?_)
            rintro e50 u50 ⟨rfl, b50⟩
            have d50 : Below V.heap.size V u50 := d48.trans (b50.mono d48.size)
            refine hK.out _ _ (HC7.out _ d50) (fun hHeld2 => ?_)
            clear hK K
            (try simp only [Act.put, List.setIfInBounds_toArray, List.set_cons_zero, List.set_cons_succ])
            refine wpAnyH_take (i := 6) (oi := ⟨some 51, _, _, _, _, _⟩) (v := ?_) rfl (by kernel_rfl) (by kernel_rfl) (by kernel_rfl) (fun _ _ _ h => h) (Or.inl ⟨by rfl, ?_⟩) (by assumption) ?_
            rotate_left
            · intro w hSw; (try dsimp only at hSw); go_simp <;> (with_reducible rfl)
            (try simp only [Act.put, List.setIfInBounds_toArray, List.set_cons_zero, List.set_cons_succ])
            refine wpAnyH_take (i := 7) (oi := ⟨some 52, _, _, _, _, _⟩) (v := ?_) rfl (by kernel_rfl) (by kernel_rfl) (by kernel_rfl) (fun _ _ _ h => h) (Or.inl ⟨by rfl, ?_⟩) (by assumption) ?_
            rotate_left
            · intro w hSw; (try dsimp only at hSw); go_simp <;> (with_reducible rfl)
            (try simp only [Act.put, List.setIfInBounds_toArray, List.set_cons_zero, List.set_cons_succ])
            refine wpAnyH_ready (rs := [8]) (by kernel_rfl) (by simp) ?_
            refine AllReadyH.cons (o := ⟨some 53, _, _, _, _, _⟩) rfl (fun K hK => ?_) AllReadyH.nil
            go_simp
            (with_reducible refine (IY.out _ d50).mono ?_)
            rintro e53 u53 ⟨rfl, b53⟩
            have d53 : Below V.heap.size V u53 := d50.trans (b53.mono d50.size)
            refine hK.out _ _ (HC7.out _ d53) (fun hHeld2 => ?_)
            clear hK K
            (try simp only [Act.put, List.setIfInBounds_toArray, List.set_cons_zero, List.set_cons_succ])
            refine wpAnyH_take (i := 9) (oi := ⟨some 54, _, _, _, _, _⟩) (v := ?_) rfl (by kernel_rfl) (by kernel_rfl) (by kernel_rfl) (fun _ _ _ h => h) (Or.inl ⟨by rfl, ?_⟩) (by assumption) ?_
            rotate_left
            · intro w hSw; (try dsimp only at hSw); go_simp <;> (with_reducible rfl)
            (try simp only [Act.put, List.setIfInBounds_toArray, List.set_cons_zero, List.set_cons_succ])
            refine wpAnyH_take (i := 10) (oi := ⟨some 55, _, _, _, _, _⟩) (v := ?_) rfl (by kernel_rfl) (by kernel_rfl) (by kernel_rfl) (fun _ _ _ h => h) (Or.inl ⟨by rfl, ?_⟩) (by assumption) ?_
            rotate_left
            · intro w hSw; (try dsimp only at hSw); go_simp <;> (with_reducible rfl)
            (try simp only [Act.put, List.setIfInBounds_toArray, List.set_cons_zero, List.set_cons_succ])
            refine wpAnyH_take (i := 11) (oi := ⟨some 56, _, _, _, _, _⟩) (v := ?_) rfl (by kernel_rfl) (by kernel_rfl) (by kernel_rfl) (fun _ _ _ h => h) (Or.inl ⟨by rfl, ?_⟩) (by assumption) ?_
            rotate_left
            · intro w hSw; (try dsimp only at hSw); go_simp <;> (with_reducible rfl)
            (try simp only [Act.put, List.setIfInBounds_toArray, List.set_cons_zero, List.set_cons_succ])
            refine wpAnyH_take (i := 12) (oi := ⟨some 57, _, _, _, _, _⟩) (v := ?_) rfl (by kernel_rfl) (by kernel_rfl) (by kernel_rfl) (fun _ _ _ h => h) (Or.inl ⟨by rfl, ?_⟩) (by assumption) ?_
            rotate_left
            · intro w hSw; (try dsimp only at hSw); go_simp <;> (with_reducible rfl)
            (try simp only [Act.put, List.setIfInBounds_toArray, List.set_cons_zero, List.set_cons_succ])
            refine wpAnyH_take (i := 13) (oi := ⟨some 58, _, _, _, _, _⟩) (v := ?_) rfl (by kernel_rfl) (by kernel_rfl) (by kernel_rfl) (fun _ _ _ h => h) (Or.inl ⟨by rfl, ?_⟩) (by assumption) ?_
            rotate_left
            · intro w hSw; (try dsimp only at hSw); go_simp <;> (with_reducible rfl)
            (try simp only [Act.put, List.setIfInBounds_toArray, List.set_cons_zero, List.set_cons_succ])
            refine wpAnyH_take (i := 14) (oi := ⟨some 59, _, _, _, _, _⟩) (v := ?_) rfl (by kernel_rfl) (by kernel_rfl) (by kernel_rfl) (fun _ _ _ h => h) (Or.inl ⟨by rfl, ?_⟩) (by assumption) ?_
            rotate_left
            · intro w hSw; (try dsimp only at hSw); go_simp <;> (with_reducible rfl)
            (try simp only [Act.put, List.setIfInBounds_toArray, List.set_cons_zero, List.set_cons_succ])
            refine wpAnyH_done (by kernel_rfl) ?_ _
            go_wp2
            go_meet
            exact ⟨by first | rfl | simp [hle], Lib.hid d53⟩
          · have hdc : decide (n1 + n2 + 1 ≤ 15) = false := decide_eq_false hle
            have HAB2 := Lib.hid (show condB (twoD 8 x y) = false by rw [HAB.out, hdc]; rfl)
            have HC7 := Lib.hid (fun (uu : World) (hb : Below V.heap.size V uu) => (⟨blk_cell (blk_keep HX.out hb (blk_lt HX.out)) 0 rfl, blk_cell (blk_keep HX.out hb (blk_lt HX.out)) 1 rfl, blk_cell (blk_keep HX.out hb (blk_lt HX.out)) 2 rfl, blk_cell (blk_keep HX.out hb (blk_lt HX.out)) 3 rfl, blk_cell (blk_keep HY.out hb (blk_lt HY.out)) 0 rfl, blk_cell (blk_keep HY.out hb (blk_lt HY.out)) 1 rfl, blk_cell (blk_keep HY.out hb (blk_lt HY.out)) 2 rfl, blk_cell (blk_keep HY.out hb (blk_lt HY.out)) 3 rfl, hb⟩ : uu.cell? ⟨w1.heap.size, 0, none⟩ = some (.int .i64 x.Op) ∧ uu.cell? ⟨w1.heap.size, 1, none⟩ = some (.int .i64 x.A) ∧ uu.cell? ⟨w1.heap.size, 2, none⟩ = some (.int .i64 x.B) ∧ uu.cell? ⟨w1.heap.size, 3, none⟩ = some (.slice xA x.Args.length xc) ∧ uu.cell? ⟨w1.heap.size + 1, 0, none⟩ = some (.int .i64 y.Op) ∧ uu.cell? ⟨w1.heap.size + 1, 1, none⟩ = some (.int .i64 y.A) ∧ uu.cell? ⟨w1.heap.size + 1, 2, none⟩ = some (.int .i64 y.B) ∧ uu.cell? ⟨w1.heap.size + 1, 3, none⟩ = some (.slice yA y.Args.length yc) ∧ Below V.heap.size V uu))
            have hD7 := (d41).drew
            refine wp_region_held_drew (S := fun uu => uu.cell? ⟨w1.heap.size, 0, none⟩ = some (.int .i64 x.Op) ∧ uu.cell? ⟨w1.heap.size, 1, none⟩ = some (.int .i64 x.A) ∧ uu.cell? ⟨w1.heap.size, 2, none⟩ = some (.int .i64 x.B) ∧ uu.cell? ⟨w1.heap.size, 3, none⟩ = some (.slice xA x.Args.length xc) ∧ uu.cell? ⟨w1.heap.size + 1, 0, none⟩ = some (.int .i64 y.Op) ∧ uu.cell? ⟨w1.heap.size + 1, 1, none⟩ = some (.int .i64 y.A) ∧ uu.cell? ⟨w1.heap.size + 1, 2, none⟩ = some (.int .i64 y.B) ∧ uu.cell? ⟨w1.heap.size + 1, 3, none⟩ = some (.slice yA y.Args.length yc) ∧ Below V.heap.size V uu) (by kernel_rfl) (HC7.out _ hD7) (fun hHeld => ?_)
            refine wpAnyH_take (i := 0) (oi := ⟨some 45, _, _, _, _, _⟩) (v := ?_) rfl (by kernel_rfl) (by kernel_rfl) (by kernel_rfl) (fun _ _ _ h => h) (Or.inl ⟨by rfl, ?_⟩) (by assumption) ?_
            rotate_left
            · intro w hSw; (try dsimp only at hSw); go_simp <;> (with_reducible rfl)
            (try simp only [Act.put, List.setIfInBounds_toArray, List.set_cons_zero, List.set_cons_succ])
            refine wpAnyH_take (i := 1) (oi := ⟨some 46, _, _, _, _, _⟩) (v := ?_) rfl (by kernel_rfl) (by kernel_rfl) (by kernel_rfl) (fun _ _ _ h => h) (Or.inl ⟨by rfl, ?_⟩) (by assumption) ?_
            rotate_left
            · intro w hSw; (try dsimp only at hSw); go_simp <;> (with_reducible rfl)
            (try simp only [Act.put, List.setIfInBounds_toArray, List.set_cons_zero, List.set_cons_succ])
            refine wpAnyH_take (i := 4) (oi := ⟨some 49, _, _, _, _, _⟩) (v := ?_) rfl (by kernel_rfl) (by kernel_rfl) (by kernel_rfl) (fun _ _ _ h => h) (Or.inl ⟨by rfl, ?_⟩) (by assumption) ?_
            rotate_left
            · intro w hSw; (try dsimp only at hSw); go_simp <;> (with_reducible rfl)
            (try simp only [Act.put, List.setIfInBounds_toArray, List.set_cons_zero, List.set_cons_succ])
            refine wpAnyH_ready (rs := [2]) (by kernel_rfl) (by simp) ?_
            refine AllReadyH.cons (o := ⟨some 47, _, _, _, _, _⟩) rfl (fun K hK => ?_) AllReadyH.nil
            go_simp
            (with_reducible refine (MA.out _ hD7).mono ?_)
            rintro e47 u47 ⟨A47, c47, rfl, h47, b47⟩
            have d47 : Below V.heap.size V u47 := hD7.trans (b47.mono hD7.size)
            refine hK.out _ _ (HC7.out _ d47) (fun hHeld2 => ?_)
            clear hK K
            (try simp only [Act.put, List.setIfInBounds_toArray, List.set_cons_zero, List.set_cons_succ])
            refine wpAnyH_ready (rs := [3]) (by kernel_rfl) (by simp) ?_
            refine AllReadyH.cons (o := ⟨some 48, _, _, _, _, _⟩) rfl (fun K hK => ?_) AllReadyH.nil
            go_simp
            (with_reducible refine (IZ.out _ (twoD 8 x y) _ h47.out SAB.out _ HAB2.out).mono ?_)
            rintro e48 u48 ⟨rfl, b48⟩
            have d48 : Below V.heap.size V u48 := d47.trans (b48.mono d47.size)
            refine hK.out _ _ (HC7.out _ d48) (fun hHeld2 => ?_)
            clear hK K
            (try simp only [Act.put, List.setIfInBounds_toArray, List.set_cons_zero, List.set_cons_succ])
            refine wpAnyH_ready (rs := [5]) (by kernel_rfl) (by simp) ?_
            refine AllReadyH.cons (o := ⟨some 50, _, _, _, _, _⟩) rfl (fun K hK => ?_) AllReadyH.nil
            go_simp
            (with_reducible refine (IX.out _ d48).mono ?_)
            rintro e50 u50 ⟨rfl, b50⟩
            have d50 : Below V.heap.size V u50 := d48.trans (b50.mono d48.size)
            refine hK.out _ _ (HC7.out _ d50) (fun hHeld2 => ?_)
            clear hK K
            (try simp only [Act.put, List.setIfInBounds_toArray, List.set_cons_zero, List.set_cons_succ])
            refine wpAnyH_take (i := 6) (oi := ⟨some 51, _, _, _, _, _⟩) (v := ?_) rfl (by kernel_rfl) (by kernel_rfl) (by kernel_rfl) (fun _ _ _ h => h) (Or.inl ⟨by rfl, ?_⟩) (by assumption) ?_
            rotate_left
            · intro w hSw; (try dsimp only at hSw); go_simp <;> (with_reducible rfl)
            (try simp only [Act.put, List.setIfInBounds_toArray, List.set_cons_zero, List.set_cons_succ])
            refine wpAnyH_take (i := 7) (oi := ⟨some 52, _, _, _, _, _⟩) (v := ?_) rfl (by kernel_rfl) (by kernel_rfl) (by kernel_rfl) (fun _ _ _ h => h) (Or.inl ⟨by rfl, ?_⟩) (by assumption) ?_
            rotate_left
            · intro w hSw; (try dsimp only at hSw); go_simp <;> (with_reducible rfl)
            (try simp only [Act.put, List.setIfInBounds_toArray, List.set_cons_zero, List.set_cons_succ])
            refine wpAnyH_ready (rs := [8]) (by kernel_rfl) (by simp) ?_
            refine AllReadyH.cons (o := ⟨some 53, _, _, _, _, _⟩) rfl (fun K hK => ?_) AllReadyH.nil
            go_simp
            (with_reducible refine (IY.out _ d50).mono ?_)
            rintro e53 u53 ⟨rfl, b53⟩
            have d53 : Below V.heap.size V u53 := d50.trans (b53.mono d50.size)
            refine hK.out _ _ (HC7.out _ d53) (fun hHeld2 => ?_)
            clear hK K
            (try simp only [Act.put, List.setIfInBounds_toArray, List.set_cons_zero, List.set_cons_succ])
            refine wpAnyH_take (i := 9) (oi := ⟨some 54, _, _, _, _, _⟩) (v := ?_) rfl (by kernel_rfl) (by kernel_rfl) (by kernel_rfl) (fun _ _ _ h => h) (Or.inl ⟨by rfl, ?_⟩) (by assumption) ?_
            rotate_left
            · intro w hSw; (try dsimp only at hSw); go_simp <;> (with_reducible rfl)
            (try simp only [Act.put, List.setIfInBounds_toArray, List.set_cons_zero, List.set_cons_succ])
            refine wpAnyH_take (i := 10) (oi := ⟨some 55, _, _, _, _, _⟩) (v := ?_) rfl (by kernel_rfl) (by kernel_rfl) (by kernel_rfl) (fun _ _ _ h => h) (Or.inl ⟨by rfl, ?_⟩) (by assumption) ?_
            rotate_left
            · intro w hSw; (try dsimp only at hSw); go_simp <;> (with_reducible rfl)
            (try simp only [Act.put, List.setIfInBounds_toArray, List.set_cons_zero, List.set_cons_succ])
            refine wpAnyH_take (i := 11) (oi := ⟨some 56, _, _, _, _, _⟩) (v := ?_) rfl (by kernel_rfl) (by kernel_rfl) (by kernel_rfl) (fun _ _ _ h => h) (Or.inl ⟨by rfl, ?_⟩) (by assumption) ?_
            rotate_left
            · intro w hSw; (try dsimp only at hSw); go_simp <;> (with_reducible rfl)
            (try simp only [Act.put, List.setIfInBounds_toArray, List.set_cons_zero, List.set_cons_succ])
            refine wpAnyH_take (i := 12) (oi := ⟨some 57, _, _, _, _, _⟩) (v := ?_) rfl (by kernel_rfl) (by kernel_rfl) (by kernel_rfl) (fun _ _ _ h => h) (Or.inl ⟨by rfl, ?_⟩) (by assumption) ?_
            rotate_left
            · intro w hSw; (try dsimp only at hSw); go_simp <;> (with_reducible rfl)
            (try simp only [Act.put, List.setIfInBounds_toArray, List.set_cons_zero, List.set_cons_succ])
            refine wpAnyH_take (i := 13) (oi := ⟨some 58, _, _, _, _, _⟩) (v := ?_) rfl (by kernel_rfl) (by kernel_rfl) (by kernel_rfl) (fun _ _ _ h => h) (Or.inl ⟨by rfl, ?_⟩) (by assumption) ?_
            rotate_left
            · intro w hSw; (try dsimp only at hSw); go_simp <;> (with_reducible rfl)
            (try simp only [Act.put, List.setIfInBounds_toArray, List.set_cons_zero, List.set_cons_succ])
            refine wpAnyH_take (i := 14) (oi := ⟨some 59, _, _, _, _, _⟩) (v := ?_) rfl (by kernel_rfl) (by kernel_rfl) (by kernel_rfl) (fun _ _ _ h => h) (Or.inl ⟨by rfl, ?_⟩) (by assumption) ?_
            rotate_left
            · intro w hSw; (try dsimp only at hSw); go_simp <;> (with_reducible rfl)
            (try simp only [Act.put, List.setIfInBounds_toArray, List.set_cons_zero, List.set_cons_succ])
            refine wpAnyH_done (by kernel_rfl) ?_ _
            go_wp2
            go_meet
            exact ⟨by first | rfl | simp [hle], Lib.hid d53⟩
    case rest =>
    obtain ⟨rfl, hcut⟩ := hcut
    have d7 := hcut.out
    clear hcut CY CZ IX IY IZ MA MO MN HY HAB NAB NOB NNB SAB SOB SNB hw1 hw2 hw3 hne1 hne2
    obtain ⟨⟨x0, x1, x2, x3⟩, -⟩ := cls_4 (blk_keep HX.out d7 (blk_lt HX.out))
    go_wp2_with fail
    refine (ML.out _ d7).mono ?_
    rintro e w9 ⟨LA, lc, rfl, ⟨f1, f2⟩, HL, b9⟩
    have d9 := d7.trans (b9.mono d7.size)
    unfold maxLen at f2
    have HNE := Lib.hid (fun (i k : Nat) (p q : CondD) (hp : (leavesC [] x)[i]? = some p) (hq : (leavesC [] x)[k]? = some q) (h : k < i) => leaves_ne hp hq h)
    have HLF := Lib.hid (fun (i : Nat) (p : CondD) (hp : (leavesC [] x)[i]? = some p) => leaves_leaf hp)
    clear x0 x1 x2 x3 ML b9 d7
    generalize leavesC [] x = LS at f1 f2 HL HNE HLF HFEW ⊢
    have hal : LS.length ≤ 1048576 := by have := HFEW.out; omega
    have CEQ := Lib.hid (fun (U : World) (hi : Nat) (p0 p1 p2 q0 q1 q2 : Int) (us vs : List Value) (he : eqC ⟨p0, p1, p2, []⟩ ⟨q0, q1, q2, []⟩ = false) (hu : rdL U hi (CondD.c ⟨p0, p1, p2, []⟩) us) (hv : rdL U hi (CondD.c ⟨q0, q1, q2, []⟩) vs) (hU : hi ≤ U.heap.size) => show Calls Try.prog 20 #[.agg us.toArray, .agg vs.toArray] U fun e w' => e = .returned (.bool false) ∧ Below U.heap.size U w' from
      he ▸ implZ_equalConds U hi _ us _ vs hu hv hU (leaf_sz _ _ _) (leaf_sz _ _ _))
    have CAR := Lib.hid (fun (U : World) (o : Int) (ho : arityD o = 0) => show Calls Try.prog 21 #[.int .i64 o] U fun e w' => e = .returned (.int .i64 0) ∧ Below U.heap.size U w' from ho ▸ implZ_arityOf U U.heap.size o (Nat.le_refl _))
    have hR9 := Below.refl w9.heap.size w9
    go_wp2_with fail
    go_loopw [7] (fun i wr => ∃ k : Nat, k ≤ LS.length ∧ i = .int .i64 (k : Int) ∧ Hid (Below w9.heap.size w9 wr)) (fun i _ => LS.length - (intOf i).toNat)
    case atStart => exact ⟨0, Nat.zero_le _, rfl, Lib.hid hR9⟩
    case round =>
      obtain ⟨k, hk, rfl, hf⟩ := hrel
      by_cases hlt : k < LS.length
      · obtain ⟨p, hp⟩ : ∃ p, LS[k]? = some p := ⟨_, List.getElem?_eq_getElem hlt⟩
        obtain ⟨hp0, hp1⟩ := HLF.out k p hp
        have HNK := Lib.hid (fun (m : Nat) (q : CondD) (hq : LS[m]? = some q) (hm : m < k) => HNE.out k m p q hp hq hm)
        obtain ⟨p0, p1, p2, fs⟩ := p
        obtain rfl : fs = [] := hp0
        obtain ⟨g, off, A1, e1, rfl, m1, m2, hr, HC⟩ := cond_at HL.out hp
        have HRP := Lib.hid hr
        have HCP := Lib.hid (fun (U : World) (hU : Below w9.heap.size w9 U) => show U.cell? ⟨g, off + k * 4, none⟩ = some (.int .i64 p0) ∧ U.cell? ⟨g, off + k * 4 + 1, none⟩ = some (.int .i64 p1) ∧ U.cell? ⟨g, off + k * 4 + 2, none⟩ = some (.int .i64 p2) ∧ U.cell? ⟨g, off + k * 4 + 3, none⟩ = some (.slice A1 0 e1) from HC _ U m2 hU)
        have CAP := Lib.hid (fun (U : World) => CAR.out U p0 hp1)
        clear hr HC hp hp1 m1 m2
        go_wp2_with fail
        go_loopw [8] (fun j wr => ∃ m : Nat, m ≤ k ∧ j = .int .i64 (m : Int) ∧ Hid (Below w9.heap.size w9 wr)) (fun j _ => k - (intOf j).toNat)
        case atStart => exact ⟨0, Nat.zero_le _, rfl, hf⟩
        case round =>
          clear hf
          obtain ⟨m, hm, rfl, hf⟩ := hrel
          have hb := hf.out
          by_cases hlm : m < k
          · have hml : m < LS.length := by omega
            obtain ⟨q, hq⟩ : ∃ q, LS[m]? = some q := ⟨_, List.getElem?_eq_getElem (by omega)⟩
            have hq1 := HNK.out m q hq hlm
            have hq0 := (HLF.out m q hq).1
            obtain ⟨q0, q1, q2, gs⟩ := q
            obtain rfl : gs = [] := hq0
            obtain ⟨g2, off2, A2, e2, hA, n1, n2, hr2, HD⟩ := cond_at HL.out hq
            injection hA with hA
            injection hA with hA1 hA2
            subst hA1 hA2
            have HDQ := Lib.hid (fun (U : World) (hU : Below w9.heap.size w9 U) => show U.cell? ⟨g, off + m * 4, none⟩ = some (.int .i64 q0) ∧ U.cell? ⟨g, off + m * 4 + 1, none⟩ = some (.int .i64 q1) ∧ U.cell? ⟨g, off + m * 4 + 2, none⟩ = some (.int .i64 q2) ∧ U.cell? ⟨g, off + m * 4 + 3, none⟩ = some (.slice A2 0 e2) from HD _ U n2 hU)
            have CE := Lib.hid (fun (U : World) (hU : Below w9.heap.size w9 U) => show Calls Try.prog 20 #[.agg #[.int .i64 p0, .int .i64 p1, .int .i64 p2, .slice A1 0 e1], .agg #[.int .i64 q0, .int .i64 q1, .int .i64 q2, .slice A2 0 e2]] U fun e w' => e = .returned (.bool false) ∧ Below U.heap.size U w' from
              CEQ.out U w9.heap.size p0 p1 p2 q0 q1 q2 _ _ hq1 (HRP.out.below hU (Nat.le_refl _)) (hr2.below hU (Nat.le_refl _)) hU.size)
            clear hr2 HD hq hq1 n1 n2
            go_wp2_with fail
            have HC16 := Lib.hid (fun (uu : World) (hb : Below w9.heap.size w9 uu) => (⟨(HCP.out _ hb).1, (HCP.out _ hb).2.1, (HCP.out _ hb).2.2.1, (HCP.out _ hb).2.2.2, (HDQ.out _ hb).1, (HDQ.out _ hb).2.1, (HDQ.out _ hb).2.2.1, (HDQ.out _ hb).2.2.2, hb⟩ : (uu.cell? ⟨g, off + k * 4, none⟩ = some (.int .i64 p0)) ∧ (uu.cell? ⟨g, off + k * 4 + 1, none⟩ = some (.int .i64 p1)) ∧ (uu.cell? ⟨g, off + k * 4 + 2, none⟩ = some (.int .i64 p2)) ∧ (uu.cell? ⟨g, off + k * 4 + 3, none⟩ = some (.slice A1 0 e1)) ∧ (uu.cell? ⟨g, off + m * 4, none⟩ = some (.int .i64 q0)) ∧ (uu.cell? ⟨g, off + m * 4 + 1, none⟩ = some (.int .i64 q1)) ∧ (uu.cell? ⟨g, off + m * 4 + 2, none⟩ = some (.int .i64 q2)) ∧ (uu.cell? ⟨g, off + m * 4 + 3, none⟩ = some (.slice A2 0 e2)) ∧ Below w9.heap.size w9 uu))
            have hD16 := (hb).drew
            refine wp_region_held_drew (S := fun uu => (uu.cell? ⟨g, off + k * 4, none⟩ = some (.int .i64 p0)) ∧ (uu.cell? ⟨g, off + k * 4 + 1, none⟩ = some (.int .i64 p1)) ∧ (uu.cell? ⟨g, off + k * 4 + 2, none⟩ = some (.int .i64 p2)) ∧ (uu.cell? ⟨g, off + k * 4 + 3, none⟩ = some (.slice A1 0 e1)) ∧ (uu.cell? ⟨g, off + m * 4, none⟩ = some (.int .i64 q0)) ∧ (uu.cell? ⟨g, off + m * 4 + 1, none⟩ = some (.int .i64 q1)) ∧ (uu.cell? ⟨g, off + m * 4 + 2, none⟩ = some (.int .i64 q2)) ∧ (uu.cell? ⟨g, off + m * 4 + 3, none⟩ = some (.slice A2 0 e2)) ∧ Below w9.heap.size w9 uu) (by kernel_rfl) (HC16.out _ hD16) (fun hHeld => ?_)
            refine wpAnyH_take (i := 0) (oi := ⟨some 73, _, _, _, _, _⟩) (v := ?_) rfl (by kernel_rfl) (by kernel_rfl) (by kernel_rfl) (fun _ _ _ h => h) (Or.inl ⟨by rfl, ?_⟩) (by assumption) ?_
            rotate_left
            · intro w hSw; (try dsimp only at hSw); go_simp <;> (with_reducible rfl)
            (try simp only [Act.put, List.setIfInBounds_toArray, List.set_cons_zero, List.set_cons_succ])
            refine wpAnyH_take (i := 1) (oi := ⟨some 74, _, _, _, _, _⟩) (v := ?_) rfl (by kernel_rfl) (by kernel_rfl) (by kernel_rfl) (fun _ _ _ h => h) (Or.inl ⟨by rfl, ?_⟩) (by assumption) ?_
            rotate_left
            · intro w hSw; (try dsimp only at hSw); go_simp <;> (with_reducible rfl)
            (try simp only [Act.put, List.setIfInBounds_toArray, List.set_cons_zero, List.set_cons_succ])
            refine wpAnyH_take (i := 2) (oi := ⟨some 75, _, _, _, _, _⟩) (v := ?_) rfl (by kernel_rfl) (by kernel_rfl) (by kernel_rfl) (fun _ _ _ h => h) (Or.inl ⟨by rfl, ?_⟩) (by assumption) ?_
            rotate_left
            · intro w hSw; (try dsimp only at hSw); go_simp <;> (with_reducible rfl)
            (try simp only [Act.put, List.setIfInBounds_toArray, List.set_cons_zero, List.set_cons_succ])
            refine wpAnyH_take (i := 3) (oi := ⟨some 76, _, _, _, _, _⟩) (v := ?_) rfl (by kernel_rfl) (by kernel_rfl) (by kernel_rfl) (fun _ _ _ h => h) (Or.inl ⟨by rfl, ?_⟩) (by assumption) ?_
            rotate_left
            · intro w hSw; (try dsimp only at hSw); go_simp <;> (with_reducible rfl)
            (try simp only [Act.put, List.setIfInBounds_toArray, List.set_cons_zero, List.set_cons_succ])
            refine wpAnyH_take (i := 4) (oi := ⟨some 77, _, _, _, _, _⟩) (v := ?_) rfl (by kernel_rfl) (by kernel_rfl) (by kernel_rfl) (fun _ _ _ h => h) (Or.inl ⟨by rfl, ?_⟩) (by assumption) ?_
            rotate_left
            · intro w hSw; (try dsimp only at hSw); go_simp <;> (with_reducible rfl)
            (try simp only [Act.put, List.setIfInBounds_toArray, List.set_cons_zero, List.set_cons_succ])
            refine wpAnyH_take (i := 5) (oi := ⟨some 78, _, _, _, _, _⟩) (v := ?_) rfl (by kernel_rfl) (by kernel_rfl) (by kernel_rfl) (fun _ _ _ h => h) (Or.inl ⟨by rfl, ?_⟩) (by assumption) ?_
            rotate_left
            · intro w hSw; (try dsimp only at hSw); go_simp <;> (with_reducible rfl)
            (try simp only [Act.put, List.setIfInBounds_toArray, List.set_cons_zero, List.set_cons_succ])
            refine wpAnyH_take (i := 6) (oi := ⟨some 79, _, _, _, _, _⟩) (v := ?_) rfl (by kernel_rfl) (by kernel_rfl) (by kernel_rfl) (fun _ _ _ h => h) (Or.inl ⟨by rfl, ?_⟩) (by assumption) ?_
            rotate_left
            · intro w hSw; (try dsimp only at hSw); go_simp <;> (with_reducible rfl)
            (try simp only [Act.put, List.setIfInBounds_toArray, List.set_cons_zero, List.set_cons_succ])
            refine wpAnyH_take (i := 7) (oi := ⟨some 80, _, _, _, _, _⟩) (v := ?_) rfl (by kernel_rfl) (by kernel_rfl) (by kernel_rfl) (fun _ _ _ h => h) (Or.inl ⟨by rfl, ?_⟩) (by assumption) ?_
            rotate_left
            · intro w hSw; (try dsimp only at hSw); go_simp <;> (with_reducible rfl)
            (try simp only [Act.put, List.setIfInBounds_toArray, List.set_cons_zero, List.set_cons_succ])
            refine wpAnyH_ready (rs := [8]) (by kernel_rfl) (by simp) ?_
            refine AllReadyH.cons (o := ⟨some 81, _, _, _, _, _⟩) rfl (fun K hK => ?_) AllReadyH.nil
            go_simp
            (with_reducible refine (CE.out _ hD16).mono ?_)
            rintro e81 u81 ⟨rfl, b81⟩
            have d81 : Below w9.heap.size w9 u81 := hD16.trans (b81.mono hD16.size)
            refine hK.out _ _ (HC16.out _ d81) (fun hHeld2 => ?_)
            clear hK K
            (try simp only [Act.put, List.setIfInBounds_toArray, List.set_cons_zero, List.set_cons_succ])
            refine wpAnyH_done (by kernel_rfl) ?_ _
            go_wp2
            exact ⟨⟨m + 1, by omega, by go_num, Lib.hid d81⟩, by simp only [intOf]; omega⟩
          · obtain ⟨v0, v1, v2, v3⟩ := HCP.out _ hb
            go_wp2_with fail
            refine (CAP.out _).mono ?_
            rintro e w95 ⟨rfl, b95⟩
            have d95 := hb.trans (b95.mono hb.size)
            go_wp2
            exact ⟨⟨k + 1, by omega, by go_num, Lib.hid d95⟩, by simp only [intOf]; omega⟩
      · have hb := hf.out
        have d10 := d9.trans (hb.mono d9.size)
        have hf5 : decide ((LS.length : Int) ≤ n1) = true := decide_eq_true HFEW.out
        obtain ⟨⟨x0, x1, x2, x3⟩, -⟩ := cls_4 (blk_keep HX.out d10 (blk_lt HX.out))
        go_wp2_with fail
        refine (CX.out _ d10).mono ?_
        rintro e w11 ⟨rfl, b11⟩
        have d11 := d10.trans (b11.mono d10.size)
        obtain ⟨⟨x0, x1, x2, x3⟩, -⟩ := cls_4 (blk_keep HX.out d11 (blk_lt HX.out))
        go_wp2_with fail
        refine (QX.out _ d11).mono ?_
        rintro e w12 ⟨rfl, b12⟩
        have d12 := d11.trans (b12.mono d11.size)
        go_wp2
        go_ret
        have DV := hbV.trans (d12.mono hbV.size)
        exact ⟨rfl, hb1.trans (DV.mono hb1.size)⟩
  · go_enter Try.func3, Try.ntmps3
    go_wp2_with (go_at_call 12; go_in)
    go_ret
    exact ⟨rfl, Below.refl _ _⟩

set_option maxRecDepth 100000 in
theorem lifted (os : Os) (started : os.Started) (H : Type) (enc : TypeId × Value → H) :
    ReturnsInHanded {} Try.checked os 3 .any (Rows.fnConditionsSpec.pre6 enc Try.prog Try.f3 Rows.fnConditionsRow.domain false) (Rows.fnConditionsSpec.post enc Try.prog Try.f3 false true false false) := by
  refine returnsInHanded_of_change (C := Try.checked) own started (by kernel_rfl) Try.func3
    (ChangeSpec.witness6 (enc := enc) (C := Try.checked) false ⟨#[], #[.slice none 0 0], []⟩ 8 (by kernel_rfl) (by kernel_rfl) (by kernel_rfl) (by kernel_rfl)) ?_
  intro W base args ds gs before hval0 hW hcnd _
  have hval : ∀ (j : Nat) t v, Try.f3.params[j]? = some t → args[j]? = some v → Value.okWide Try.prog W .any base t v := hval0
  have hW' := hW
  obtain ⟨p, q, hA0, hV, rfl, hfz, hnd⟩ := hW
  have hA : DataW.TrodAll enc Try.prog W 0 (fun _ => true) true Try.f3.params.toList args.toList ds p := hA0
  rw [Try.params3] at hA hval
  obtain ⟨v0, vs0, d0, ds0, p0, q0, hargs, rfl, rfl, h0, r0⟩ := trodAll_cons hA
  obtain ⟨rfl, rfl, rfl⟩ := trodAll_nil r0
  obtain rfl : args = #[v0] := by cases args; simp_all
  obtain ⟨rfl, rfl⟩ := trodVars_none hV
  obtain ⟨a0, len0, cap0, rfl⟩ := okWide_slice Try.underlying22 (hval 0 22 v0 rfl rfl)
  have k0 := h0
  have lt0 : ∀ x ∈ p0, x.block < W.heap.size := by obtain ⟨m, hm⟩ := k0; exact DataW.trod_lt m _ _ _ hm
  obtain ⟨z0, w0⟩ : ∃ zs, IsRow .u8 W a0 len0 cap0 zs := by
    obtain ⟨fuel, hf⟩ := h0
    exact isRow_of Try.underlying22 Try.underlying5 (by kernel_rfl) hf
  clear hA0 hval0
  refine (walk a0 len0 cap0 z0 W w0).mono fun e W' ⟨he, bel⟩ => ?_
  subst he
  exact ⟨_, rfl, _, _, _, [], _, [], hW', trodAll_mk1 (shut_bool Try.underlying4 _), (trodAll_cons_mk (Below.trod laidOut (by kernel_rfl) (of_decide_eq_true (by kernel_rfl)) k0 bel lt0) trodAll_mk0), rfl, bel.frame _, fun h => by cases h⟩

theorem over : Rows.fnConditionsRow.holds Try.pinned (OpenSpec.ofChange Rows.fnConditionsSpec) :=
  OpenClaim.holds_of_wide 3 Try.f3 rfl rfl rfl rfl rfl rfl rfl ⟨rfl, rfl, rfl, rfl, rfl⟩ rfl rfl rfl rfl rfl (by kernel_rfl) Try.func3 (by kernel_rfl)
    (of_decide_eq_true (by kernel_rfl)) (by unfold Func.isWrapper; first | (rw [if_pos (by decide +kernel)]; kernel_rfl) | (rw [if_neg (by decide +kernel)]; exact ⟨rfl, rfl⟩))
    (fun os started H enc _ => lifted os started H enc)

/-- for every input, conditions are as large as their parts, and their leaves are told once each. -/
theorem proved : Rows.FnConditionsSaid := over
#print axioms proved
end Go.Proofs.Ytoeiampanchabaa.fnConditions
