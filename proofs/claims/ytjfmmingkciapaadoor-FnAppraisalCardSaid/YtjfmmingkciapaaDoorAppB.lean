/- Appraisal (chapter 13): contracts of the landed functions: rules that are in order. No condition but the bounds of what came in. -/
import Derived.Test.YtjfmmingkciapaaDoorAppV
import Derived.Test.YtjfmmingkciapaaDoorGround
namespace Go.Proofs.YtjfmmingkciapaaDoor
open Go.ChangeShapes Go.WideShapes Go.ChangeAt Go.RowKit
set_option linter.unusedVariables false

/-- What is asked of a number in the list of a verdict. -/
def isOf (x : AllowedD) (r m : Int) : Bool := decide (0 ≤ m ∧ m ≤ 99) && (oneA x m == r)
def listB (x : AllowedD) (r : Int) (l : List Int) : Bool := l.all (isOf x r) && (decide (l.length ≤ 8) && ascTo l l.length)
theorem elAt_parts {l : List Int} {i : Nat} (h : i < l.length) : elAt l i = (decide (0 ≤ l[i] ∧ l[i] ≤ 99) && ascAt l i) := by
  unfold elAt ascAt
  rw [List.getElem?_eq_getElem h]
  dsimp only
  congr 1
  by_cases hz : i = 0
  · simp [hz]
  · have h2 : i - 1 < l.length := by omega
    rw [List.getElem?_eq_getElem h2]
theorem numsB_iff (l : List Int) : numsB l = true ↔ (∀ m ∈ l, 0 ≤ m ∧ m ≤ 99) ∧ l.length ≤ 8 ∧ ascTo l l.length = true := by
  unfold numsB elsTo ascTo
  rw [Bool.and_eq_true, List.all_eq_true, List.all_eq_true, decide_eq_true_iff]
  constructor
  · rintro ⟨h, h8⟩
    refine ⟨fun m hm => ?_, h8, fun i hi => ?_⟩
    · obtain ⟨i, hi, rfl⟩ := List.getElem_of_mem hm
      have := h i (List.mem_range.2 hi)
      rw [elAt_parts hi, Bool.and_eq_true, decide_eq_true_iff] at this
      exact this.1
    · have := h i hi
      rw [elAt_parts (List.mem_range.1 hi), Bool.and_eq_true] at this
      exact this.2
  · rintro ⟨h1, h8, h2⟩
    refine ⟨fun i hi => ?_, h8⟩
    have hl := List.mem_range.1 hi
    rw [elAt_parts hl, Bool.and_eq_true, decide_eq_true_iff]
    exact ⟨h1 _ (List.getElem_mem hl), h2 i hi⟩
theorem listB_iff (x : AllowedD) (r : Int) (l : List Int) : listB x r l = true ↔ numsB l = true ∧ ∀ m ∈ l, oneA x m = r := by
  unfold listB isOf
  rw [numsB_iff, Bool.and_eq_true, Bool.and_eq_true, List.all_eq_true, decide_eq_true_iff]
  constructor
  · rintro ⟨h, h8, ha⟩
    refine ⟨⟨fun m hm => ?_, h8, ha⟩, fun m hm => ?_⟩
    all_goals
      have := h m hm
      rw [Bool.and_eq_true, decide_eq_true_iff, beq_iff_eq] at this
    · exact this.1
    · exact this.2
  · rintro ⟨⟨h, h8, ha⟩, h1⟩
    refine ⟨fun m hm => ?_, h8, ha⟩
    rw [Bool.and_eq_true, decide_eq_true_iff, beq_iff_eq]
    exact ⟨h m hm, h1 m hm⟩
theorem hasI_iff (l : List Int) (m : Int) : hasI l m = true ↔ m ∈ l := by
  unfold hasI
  rw [List.any_eq_true]
  constructor
  · rintro ⟨y, hy, he⟩
    rw [beq_iff_eq] at he
    rwa [← he]
  · intro h
    exact ⟨m, h, by simp⟩
theorem apartB_iff (a b : List Int) : apartB a b = true ↔ ∀ m ∈ a, m ∉ b := by
  unfold apartB
  rw [List.all_eq_true]
  constructor
  · intro h m hm hb
    have := h m hm
    rw [(hasI_iff b m).2 hb] at this
    cases this
  · intro h m hm
    have : hasI b m = false := by
      rw [Bool.eq_false_iff]
      intro e
      exact h m hm ((hasI_iff b m).1 e)
    rw [this]
    rfl
theorem allowedB_lists (x : AllowedD) : allowedB x = (decide (0 ≤ x.Version) && (listB x 3 x.Good && (listB x 2 x.Old && listB x 0 x.Bad))) := by
  rw [Bool.eq_iff_iff]
  unfold allowedB
  simp only [Bool.and_eq_true, listB_iff, apartB_iff]
  have hB : ∀ m ∈ x.Bad, oneA x m = 0 := fun m hm => by
    unfold oneA
    rw [if_pos ((hasI_iff _ _).2 hm)]
  have hn : ∀ {l : List Int} {m : Int}, m ∉ l → hasI l m = false := fun h => by
    rw [Bool.eq_false_iff]
    exact fun e => h ((hasI_iff _ _).1 e)
  have hO : ∀ m ∈ x.Old, (oneA x m = 2 ↔ m ∉ x.Bad) := fun m hm => by
    constructor
    · intro h hb
      rw [hB m hb] at h
      cases h
    · intro h
      unfold oneA
      rw [hn h, (hasI_iff _ _).2 hm]
      rfl
  have hG : ∀ m ∈ x.Good, (oneA x m = 3 ↔ m ∉ x.Old ∧ m ∉ x.Bad) := fun m hm => by
    constructor
    · intro h
      have hb : m ∉ x.Bad := fun hb => by
        rw [hB m hb] at h
        cases h
      refine ⟨fun ho => ?_, hb⟩
      rw [(hO m ho).2 hb] at h
      cases h
    · rintro ⟨ho, hb⟩
      unfold oneA
      rw [hn ho, hn hb, (hasI_iff _ _).2 hm]
      rfl
  constructor
  · rintro ⟨h0, h1, h2, h3, h4, h5, h6⟩
    exact ⟨h0, ⟨h1, fun m hm => (hG m hm).2 ⟨h4 m hm, h5 m hm⟩⟩, ⟨h2, fun m hm => (hO m hm).2 (h6 m hm)⟩, h3, hB⟩
  · rintro ⟨h0, ⟨h1, g1⟩, ⟨h2, g2⟩, h3, -⟩
    exact ⟨h0, h1, h2, h3, fun m hm => ((hG m hm).1 (g1 m hm)).1, fun m hm => ((hG m hm).1 (g1 m hm)).2, fun m hm => (hO m hm).1 (g2 m hm)⟩
theorem inR_yes (n l h : Int) (w : World) (hy : l ≤ n ∧ n ≤ h) :
    Calls Tryd.prog 22 #[.int .i64 n, .int .i64 l, .int .i64 h] w fun e w' => e = .returned (.bool true) ∧ w = w' :=
  (impl_range n l h w).mono fun e w' he => ⟨by rw [he.1, decide_eq_true hy], he.2⟩
theorem inR_no (n l h : Int) (w : World) (hy : ¬(l ≤ n ∧ n ≤ h)) :
    Calls Tryd.prog 22 #[.int .i64 n, .int .i64 l, .int .i64 h] w fun e w' => e = .returned (.bool false) ∧ w = w' :=
  (impl_range n l h w).mono fun e w' he => ⟨by rw [he.1, decide_eq_false hy], he.2⟩
set_option maxHeartbeats 8000000 in
set_option maxRecDepth 100000 in
theorem impl_isListOf (w : World) (hi c : Nat) (a : Option Addr) (x : AllowedD) (r : Int) (l : List Int) (h : Row .i64 w hi (.slice a l.length c) l) (hh : hi ≤ w.heap.size) :
    Calls Tryd.prog 31 #[.agg (arrTo x 100), .int .i64 r, .slice a l.length c] w fun e w' => e = .returned (.bool (listB x r l)) ∧ Below w.heap.size w w' := by
  obtain ⟨a', c', e0, h1, h2, -⟩ := id h.form
  injection e0 with e0 e1 e2
  subst e0 e2
  unfold maxLen at h2
  have HXA := Lib.hid (fun (k : Nat) (hk : k < 100) => show (arrTo x 100)[k]? = some (.int .i64 (oneA x (k : Int))) by rw [arrTo_at _ _ _ hk, if_pos hk])
  have hXs := arrTo_size x 100
  obtain ⟨W, hW⟩ : ∃ W, W = w.alloc (.cells (arrTo x 100) 53) := ⟨_, rfl⟩
  have hb0 : Below w.heap.size w W := by rw [hW]; exact (Below.refl _ _).alloc (Nat.le_refl _) _
  have hk0 := Lib.hid (show W.heap[w.heap.size]? = some (.cells (arrTo x 100) 53) by rw [hW]; exact blk_new _ _ _)
  have hwW := blk_lt hk0.out
  have H := Lib.hid (h.below hb0 hh)
  have HA := Lib.hid (fun (U : World) (hU : Below W.heap.size W U) => impl_isAscending U hi c a l (H.out.below hU (Nat.le_trans hh hb0.size)))
  clear h
  obtain ⟨R, hR⟩ : ∃ R, listB x r l = R := ⟨_, rfl⟩
  rw [hR]
  have HR := Lib.hid hR
  clear hR
  generalize arrTo x 100 = XA at HXA hXs hW hk0 ⊢
  go_enter Tryd.func31, Tryd.ntmps31
  go_upto_region 1 with fail
  rw [← hW]
  clear hW
  go_wp2
  go_loopw [11] (fun i wr => ∃ k : Nat, k ≤ l.length ∧ i = .int .i64 (k : Int) ∧ Hid ((l.take k).all (isOf x r) = true) ∧ Hid (Below W.heap.size W wr)) (fun i _ => l.length - (intOf i).toNat)
  case atStart => exact ⟨0, Nat.zero_le _, rfl, Lib.hid (by simp), Lib.hid (Below.refl _ _)⟩
  case round =>
    obtain ⟨k, hk, rfl, HS, HB⟩ := hrel
    by_cases hlt : k < l.length
    · obtain ⟨m, hm⟩ : ∃ m, l[k]? = some m := ⟨_, List.getElem?_eq_getElem hlt⟩
      have HT := Lib.hid (show (l.take (k + 1)).all (isOf x r) = isOf x r m by rw [List.take_add_one, hm, List.all_append, HS.out]; simp)
      have HN := Lib.hid (fun (h9 : isOf x r m = false) => (show listB x r l = false by
        unfold listB
        rw [show l.all (isOf x r) = false by
          rw [List.all_eq_false]
          exact ⟨m, List.mem_of_getElem? hm, by rw [h9]; simp⟩]
        rfl))
      obtain ⟨B, off, rfl, g1, g2, c0⟩ := Row.cellAt H.out hm
      replace c0 := (HB.out.cell (p := ⟨B, off + k, none⟩) g2).trans c0
      clear hm
      by_cases hr : 0 ≤ m ∧ m ≤ 99
      · have HI := Lib.hid (fun W => inR_yes m 0 99 W hr)
        have HD : isOf x r m = (oneA x m == r) := by unfold isOf; rw [decide_eq_true hr, Bool.true_and]
        obtain ⟨n, rfl⟩ : ∃ n : Nat, m = (n : Int) := ⟨m.toNat, by omega⟩
        have hn : n < 100 := by omega
        have hx : wr.cell? ⟨w.heap.size, n, none⟩ = some (.int .i64 (oneA x (n : Int))) := blk_cell (blk_keep hk0.out HB.out hwW) n (HXA.out n hn)
        generalize oneA x (n : Int) = q at hx HD
        obtain ⟨b, hb⟩ : ∃ b, (q == r) = b := ⟨_, rfl⟩
        rw [hb] at HD
        rw [HD] at HT HN
        have hb2 : (q != r) = !b := by rw [← hb]; rfl
        clear HD hr hb
        cases b
        · have HF := Lib.hid (show R = false by rw [← HR.out]; exact HN.out rfl)
          go_wp2_with fail
          refine (HI.out _).mono ?_
          rintro e u ⟨rfl, rfl⟩
          go_wp2
          go_ret
          exact ⟨ret_b HF.out.symm, hb0.trans (HB.out.mono hb0.size)⟩
        · go_wp2_with fail
          refine (HI.out _).mono ?_
          rintro e u ⟨rfl, rfl⟩
          go_wp2
          exact ⟨⟨k + 1, by omega, by go_num, HT, HB⟩, by simp only [intOf]; omega⟩
      · have HI := Lib.hid (fun W => inR_no m 0 99 W hr)
        have HF := Lib.hid (show R = false by rw [← HR.out]; exact HN.out (by unfold isOf; rw [decide_eq_false hr, Bool.false_and]))
        clear hr
        go_wp2_with fail
        refine (HI.out _).mono ?_
        rintro e u ⟨rfl, rfl⟩
        go_wp2
        go_ret
        exact ⟨ret_b HF.out.symm, hb0.trans (HB.out.mono hb0.size)⟩
    · obtain rfl : k = l.length := by omega
      have HF := Lib.hid (show R = (decide (l.length ≤ 8) && ascTo l l.length) by
        rw [← HR.out]
        unfold listB
        have h9 := HS.out
        rw [List.take_of_length_le (Nat.le_refl _)] at h9
        rw [h9, Bool.true_and])
      generalize ascTo l l.length = z at HA HF
      by_cases h8 : (l.length : Int) ≤ 8
      · have HF2 := Lib.hid (show R = z by rw [HF.out, decide_eq_true (by omega), Bool.true_and])
        go_wp2_with fail
        refine (HA.out _ HB.out).mono ?_
        rintro e u ⟨rfl, b1⟩
        go_wp2
        go_ret
        exact ⟨ret_b HF2.out.symm, hb0.trans ((HB.out.trans (b1.mono HB.out.size)).mono hb0.size)⟩
      · have HF2 := Lib.hid (show R = false by rw [HF.out, decide_eq_false (by omega), Bool.false_and])
        go_wp2
        go_ret
        exact ⟨ret_b HF2.out.symm, hb0.trans (HB.out.mono hb0.size)⟩
set_option maxHeartbeats 8000000 in
set_option maxRecDepth 100000 in
theorem impl_isAllowed (w : World) (hi : Nat) (x : AllowedD) (vs : List Value) (h : rdL w hi (AllowedD.c x) vs) (hh : hi ≤ w.heap.size) :
    Calls Tryd.prog 15 #[.agg vs.toArray] w fun e w' => e = .returned (.bool (allowedB x)) ∧ Below w.heap.size w w' := by
  obtain ⟨v, g, o, b⟩ := x
  obtain ⟨A1, c1, A2, c2, A3, c3, rfl, hv, hg, ho, hb⟩ := allowed_in h
  have hz0 := zero_verdicts.1
  have hz1 := zero_verdicts.2
  obtain ⟨W, hW⟩ : ∃ W, W = w.alloc (.cells #[.int .i64 v, .slice A1 g.length c1, .slice A2 o.length c2, .slice A3 b.length c3] 26) := ⟨_, rfl⟩
  have hb0 : Below w.heap.size w W := by rw [hW]; exact (Below.refl _ _).alloc (Nat.le_refl _) _
  have hk0 : W.heap[w.heap.size]? = some (.cells #[.int .i64 v, .slice A1 g.length c1, .slice A2 o.length c2, .slice A3 b.length c3] 26) := by rw [hW]; exact blk_new _ _ _
  have HP := Lib.hid (show allowedB ⟨v, g, o, b⟩ = (decide (0 ≤ v) && (listB ⟨v, g, o, b⟩ 3 g && (listB ⟨v, g, o, b⟩ 2 o && listB ⟨v, g, o, b⟩ 0 b))) from allowedB_lists ⟨v, g, o, b⟩)
  have C0 := Lib.hid (fun (U : World) (hU : Below w.heap.size w U) => show Calls Tryd.prog 21 #[.agg #[.int .i64 v, .slice A1 g.length c1, .slice A2 o.length c2, .slice A3 b.length c3]] U _ from impl_verdictsOf U hi ⟨v, g, o, b⟩ _ (h.below hU hh) (Nat.le_trans hh hU.size))
  generalize (⟨v, g, o, b⟩ : AllowedD) = X at C0 HP ⊢
  have C1 := Lib.hid (fun (U : World) (hU : Below w.heap.size w U) => impl_isListOf U hi c1 A1 X 3 g (hg.below hU hh) (Nat.le_trans hh hU.size))
  have C2 := Lib.hid (fun (U : World) (hU : Below w.heap.size w U) => impl_isListOf U hi c2 A2 X 2 o (ho.below hU hh) (Nat.le_trans hh hU.size))
  have C3 := Lib.hid (fun (U : World) (hU : Below w.heap.size w U) => impl_isListOf U hi c3 A3 X 0 b (hb.below hU hh) (Nat.le_trans hh hU.size))
  generalize listB X 3 g = z1 at C1 HP
  generalize listB X 2 o = z2 at C2 HP
  generalize listB X 0 b = z3 at C3 HP
  generalize allowedB X = R at HP ⊢
  clear h hg ho hb hv
  obtain ⟨Z, hZ⟩ : ∃ Z, Array.replicate 100 (Value.int .i64 0) = Z := ⟨_, rfl⟩
  have hZs : Z.size = 100 := by rw [← hZ]; simp
  rw [hZ] at hz0
  clear hZ
  go_enter Tryd.func15, Tryd.ntmps15
  go_upto_region 1 with fail
  rw [← hW]
  clear hW
  obtain ⟨⟨x0, x1, x2, x3⟩, -⟩ := cls_4 hk0
  go_wp2_with fail
  refine (C0.out _ hb0).mono ?_
  rintro e u ⟨rfl, b1⟩
  have hk0u := blk_keep hk0 b1 (blk_lt hk0)
  have hbu := hb0.trans (b1.mono hb0.size)
  have hwu := (blk_lt hk0u)
  clear x0 x1 x2 x3 hk0 b1 C0
  have hst : (storeCells ⟨u.heap.size, 0, none⟩ (arrTo X 100).toList).run Tryd.prog (u.alloc (.cells Z 53)) = .ok () (u.alloc (.cells (arrTo X 100) 53)) := by
    have h9 := run_storeCells_new (P := Tryd.prog) u 53 Z (arrTo X 100) (by rw [hz1, arrTo_size]) (by rw [arrTo_size, hZs]) (arrTo_one X 100)
    simpa using h9
  obtain ⟨V, hV⟩ : ∃ V, V = u.alloc (.cells (arrTo X 100) 53) := ⟨_, rfl⟩
  have hbV : Below u.heap.size u V := by rw [hV]; exact (Below.refl _ _).alloc (Nat.le_refl _) _
  have HY := Lib.hid (show V.heap[u.heap.size]? = some (.cells (arrTo X 100) 53) by rw [hV]; exact blk_new _ _ _)
  go_upto_region 2 with fail
  rw [← hV]
  have hk0V := blk_keep hk0u hbV hwu
  have hwV := blk_lt hk0V
  have hbw := hbu.trans (hbV.mono hbu.size)
  have huV : u.heap.size < V.heap.size := blk_lt HY.out
  clear hst hV hz0 hk0u hbV hZs
  have hsz := arrTo_size X 100
  obtain ⟨⟨x0, x1, x2, x3⟩, -⟩ := cls_4 hk0V
  have hd := Below.refl V.heap.size V
  by_cases hv : 0 ≤ v
  · have HP1 := Lib.hid (show R = (z1 && (z2 && z3)) by rw [HP.out, decide_eq_true hv, Bool.true_and])
    go_wp2_with fail
    refine wp_load_row _ _ rfl u.heap.size rfl HY.out _ Tryd.underlying53 rfl (by rw [hz1, hsz]) ?_
    go_wp2_with fail
    refine (C1.out _ hbw).mono ?_
    rintro e q1 ⟨rfl, f1⟩
    have g1 := hbw.trans (f1.mono hbw.size)
    have hy1 := blk_keep HY.out f1 (blk_lt HY.out)
    have k1 := blk_keep hk0V f1 (blk_lt hk0V)
    clear x0 x1 x2 x3
    obtain ⟨⟨x0, x1, x2, x3⟩, -⟩ := cls_4 k1
    cases z1
    · have HF := Lib.hid (show R = false by rw [HP1.out]; rfl)
      go_wp2
      go_ret
      exact ⟨ret_b HF.out.symm, g1⟩
    · have HP2 := Lib.hid (show R = (z2 && z3) by rw [HP1.out]; rfl)
      go_wp2_with fail
      refine wp_load_row _ _ rfl u.heap.size rfl hy1 _ Tryd.underlying53 rfl (by rw [hz1, hsz]) ?_
      go_wp2_with fail
      refine (C2.out _ g1).mono ?_
      rintro e q2 ⟨rfl, f2⟩
      have g2 := g1.trans (f2.mono g1.size)
      have hy2 := blk_keep hy1 f2 (blk_lt hy1)
      have k2 := blk_keep k1 f2 (blk_lt k1)
      clear x0 x1 x2 x3
      obtain ⟨⟨x0, x1, x2, x3⟩, -⟩ := cls_4 k2
      cases z2
      · have HF := Lib.hid (show R = false by rw [HP2.out]; rfl)
        go_wp2
        go_ret
        exact ⟨ret_b HF.out.symm, g2⟩
      · have HF := Lib.hid (show R = z3 by rw [HP2.out]; rfl)
        go_wp2_with fail
        refine wp_load_row _ _ rfl u.heap.size rfl hy2 _ Tryd.underlying53 rfl (by rw [hz1, hsz]) ?_
        go_wp2_with fail
        refine (C3.out _ g2).mono ?_
        rintro e q3 ⟨rfl, f3⟩
        have g3 := g2.trans (f3.mono g2.size)
        have hy3 := blk_keep hy2 f3 (blk_lt hy2)
        have k3 := blk_keep k2 f3 (blk_lt k2)
        clear x0 x1 x2 x3
        obtain ⟨⟨x0, x1, x2, x3⟩, -⟩ := cls_4 k3
        go_wp2
        go_ret
        exact ⟨ret_b HF.out.symm, g3⟩
  · have HF := Lib.hid (show R = false by rw [HP.out, decide_eq_false hv, Bool.false_and])
    go_wp2
    go_ret
    exact ⟨ret_b HF.out.symm, hbw⟩
end Go.Proofs.YtjfmmingkciapaaDoor
