/- Issuers (chapter 8): statements are taken into a store: contracts of the model and of the landed function. Condition of the landed one: the package variable errNoKey holds a pointer to an error (NoKey); else none but the bounds of what came in. -/
import Derived.Test.YtjfmmingkciapaaGreatDoorBel
import Derived.Test.YtjfmmingkciapaaGreatDoorStoresZ
import Derived.Test.YtjfmmingkciapaaGreatDoorStoresJ
import Derived.Test.YtjfmmingkciapaaGreatDoorStatedS
namespace Go.Proofs.YtjfmmingkciapaaGreatDoor
open Go.ChangeShapes Go.WideShapes Go.ChangeAt Go.RowKit
set_option linter.unusedVariables false

def stepT (ls : List IssuerD) (acc : List FactD × Nat) (y : StatedD) : List FactD × Nat := if believedB ls y.Fact y.Mark then (if (putF acc.1 y.Fact).2 then ((putF acc.1 y.Fact).1, acc.2 + 1) else acc) else acc
/-- The store behind the statements ys, and how many were put. -/
def takeS (ls : List IssuerD) (ys : List StatedD) (xs : List FactD) : List FactD × Nat := ys.foldl (stepT ls) (xs, 0)
theorem takeS_take {ls : List IssuerD} {ys : List StatedD} {k : Nat} {y : StatedD} (h : ys[k]? = some y) (xs : List FactD) : takeS ls (ys.take (k + 1)) xs = stepT ls (takeS ls (ys.take k) xs) y := by
  unfold takeS
  rw [List.take_add_one, h, List.foldl_append]
  rfl
theorem stepT_len (ls : List IssuerD) (acc : List FactD × Nat) (y : StatedD) (n : Nat) (h : acc.1.length ≤ n) (hn : 30 ≤ n) : (stepT ls acc y).1.length ≤ n := by
  unfold stepT
  split
  · split
    · exact putF_length _ _ n h hn
    · exact h
  · exact h
theorem stepT_count (ls : List IssuerD) (acc : List FactD × Nat) (y : StatedD) : (stepT ls acc y).2 ≤ acc.2 + 1 := by
  unfold stepT
  split
  · split
    · exact Nat.le_refl _
    · exact Nat.le_succ _
  · exact Nat.le_succ _
theorem foldT_len (ls : List IssuerD) (n : Nat) (hn : 30 ≤ n) : ∀ (ys : List StatedD) (acc : List FactD × Nat), acc.1.length ≤ n → (ys.foldl (stepT ls) acc).1.length ≤ n
  | [], _, h => h
  | y :: ys, acc, h => foldT_len ls n hn ys _ (stepT_len ls acc y n h hn)
theorem foldT_count (ls : List IssuerD) : ∀ (ys : List StatedD) (acc : List FactD × Nat), (ys.foldl (stepT ls) acc).2 ≤ acc.2 + ys.length
  | [], _ => Nat.le_refl _
  | y :: ys, acc => by
    have h := foldT_count ls ys (stepT ls acc y)
    have h2 := stepT_count ls acc y
    rw [List.foldl_cons, List.length_cons]
    omega
theorem takeS_len (ls : List IssuerD) (ys : List StatedD) (xs : List FactD) (n : Nat) (hn : 30 ≤ n) (h : xs.length ≤ n) : (takeS ls ys xs).1.length ≤ n := foldT_len ls n hn ys _ h
theorem takeS_count (ls : List IssuerD) (ys : List StatedD) (xs : List FactD) : (takeS ls ys xs).2 ≤ ys.length := by
  have := foldT_count ls ys (xs, 0)
  rwa [Nat.zero_add] at this
set_option maxHeartbeats 8000000 in
set_option maxRecDepth 100000 in
theorem spec_takeStated (w : World) (hl h1 h2 cl c1 c2 : Nat) (al a1 a2 : Option Addr) (ls : List IssuerD) (xs : List FactD) (ys : List StatedD) (H0 : RowIssuer w hl (.slice al ls.length cl) ls) (H1 : RowFact w h1 (.slice a1 xs.length c1) xs) (H2 : RowStated w h2 (.slice a2 ys.length c2) ys)
    (hh0 : hl ≤ w.heap.size) (hh1 : h1 ≤ w.heap.size) (hh2 : h2 ≤ w.heap.size) (hwf : ∀ x ∈ ls, (Lit.int .i64 x.Id).wf = true ∧ (Lit.int .i64 x.Secret).wf = true) (hyw : ∀ y ∈ ys, y.Fact.wf) (hn : xs.length ≤ 1048576) :
    Calls Tryz.prog 20 #[.slice al ls.length cl, .slice a1 xs.length c1, .slice a2 ys.length c2] w fun e w' => ∃ u, e = .returned (.tuple #[u, .int .i64 ((takeS ls ys xs).2 : Int)]) ∧ OwnFact w' w.heap.size w'.heap.size u (takeS ls ys xs).1 ∧ Below w.heap.size w w' := by
  obtain ⟨m1, m2⟩ := H2.fits
  unfold maxLen at m2
  have HA := Lib.hid H0
  have HY := Lib.hid H2
  have HWF := Lib.hid hwf
  have HYW := Lib.hid hyw
  have HCP := Lib.hid (spec_l7Copy w h1 c1 a1 xs H1 hh1 hn)
  clear H0 H1 H2 hwf hyw
  go_enter Tryz.func20, Tryz.ntmps20
  go_wp2_with fail
  refine HCP.out.mono ?_
  rintro e u1 ⟨v, rfl, ho, b1⟩
  have HO := Lib.hid ho
  clear ho
  go_wp2
  go_loopw [8, 9, 10] (fun v n i wr => ∃ k : Nat, k ≤ ys.length ∧ i = .int .i64 (k : Int) ∧ n = .int .i64 ((takeS ls (ys.take k) xs).2 : Int) ∧ OwnFact wr w.heap.size wr.heap.size v (takeS ls (ys.take k) xs).1 ∧ Below w.heap.size w wr) (fun _ _ i _ => ys.length - (intOf i).toNat)
  case atStart => exact ⟨0, Nat.zero_le _, rfl, rfl, by rw [List.take_zero]; exact HO.out, b1⟩
  case round =>
    obtain ⟨k, hk, rfl, rfl, hown, hb⟩ := hrel
    by_cases hlt : k < ys.length
    · obtain ⟨y, hy⟩ : ∃ y, ys[k]? = some y := ⟨_, List.getElem?_eq_getElem hlt⟩
      have HS := Lib.hid (takeS_take (ls := ls) hy xs)
      have hm := takeS_len ls (ys.take k) xs 1048576 (by decide) hn
      have hcn := takeS_count ls (ys.take k) xs
      have hyf := HYW.out y (List.mem_of_getElem? hy)
      rw [List.length_take] at hcn
      have hcn2 : (takeS ls (ys.take k) xs).2 < ys.length := by omega
      clear hcn
      obtain ⟨bl, hbl⟩ : ∃ bl, believedB ls y.Fact y.Mark = bl := ⟨_, rfl⟩
      generalize hM : (takeS ls (ys.take k) xs).1 = M at hown hm
      generalize hC : (takeS ls (ys.take k) xs).2 = C at hcn2 ⊢
      have hMC : takeS ls (ys.take k) xs = (M, C) := by rw [← hM, ← hC]
      rw [hMC] at HS
      obtain ⟨M2, hM2⟩ : ∃ M2, (putF M y.Fact).1 = M2 := ⟨_, rfl⟩
      obtain ⟨pb, hpb⟩ : ∃ pb, (putF M y.Fact).2 = pb := ⟨_, rfl⟩
      have HT := Lib.hid (show takeS ls (ys.take (k + 1)) xs = if bl then (if pb then (M2, C + 1) else (M, C)) else (M, C) by
        rw [HS.out]
        unfold stepT
        rw [hbl, hpb, hM2])
      obtain ⟨⟨p0, p1, p2, p3, p4, p5⟩, p6⟩ := y
      dsimp only at hbl hM2 hpb hyf
      obtain ⟨b, off, rfl, r1, r2, HCY⟩ := RowStated.at HY.out hy
      obtain ⟨c0, c1', c2', c3, c4, c5, c6⟩ := HCY _ _ r2 hb
      have HB := Lib.hid (fun (U : World) (hU : Below w.heap.size w U) => show Calls Tryz.prog 10 #[.slice al ls.length cl, .agg #[.int .i64 p0, .int .i64 p1, .int .i64 p2, .int .i64 p3, .int .i64 p4, .int .i64 p5, .int .i64 p6]] U fun e w' => e = .returned (.bool bl) ∧ Below U.heap.size U w' from
        hbl ▸ spec_isBelieved U hl cl al ls p0 p1 p2 p3 p4 p5 p6 (HA.out.below IssuerR.fine hU hh0) (Nat.le_trans hh0 hU.size) HWF.out hyf)
      have hr := hown.read
      obtain ⟨_, A, cp, rfl, _⟩ := id hr
      have HP := Lib.hid (fun (U : World) (hU : Below wr.heap.size wr U) => show Calls Tryz.prog 57 #[.slice A M.length cp, .agg #[.int .i64 p0, .int .i64 p1, .int .i64 p2, .int .i64 p3, .int .i64 p4, .int .i64 p5]] U fun e w' => ∃ v', e = .returned (.tuple #[v', .bool pb]) ∧ OwnFact w' U.heap.size w'.heap.size v' M2 ∧ Below U.heap.size U w' from by
        have := spec_putFact U wr.heap.size cp A M ⟨p0, p1, p2, p3, p4, p5⟩ (hr.below hU (Nat.le_refl _)) hU.size hm
        rw [hpb, hM2] at this
        exact this)
      have HW := Lib.hid hown
      have HCC := Lib.hid HCY
      clear hM2 hpb hbl hM hC hMC HS hr hown hy hyf HCY
      go_wp2_with fail
      refine (HB.out _ hb).mono ?_
      rintro e u3 ⟨rfl, b3⟩
      have e3 := b3
      have d3 := hb.trans (b3.mono hb.size)
      clear c0 c1' c2' c3 c4 c5 c6
      cases bl
      · have HR := Lib.hid (show takeS ls (ys.take (k + 1)) xs = (M, C) from HT.out)
        go_wp2
        refine ⟨⟨k + 1, by omega, by go_num, by rw [HR.out], ?_, d3⟩, by simp only [intOf]; omega⟩
        rw [HR.out]
        exact (HW.out.below e3 (Nat.le_refl _)).wide (Nat.le_refl _) e3.size
      · obtain ⟨c0, c1', c2', c3, c4, c5, c6⟩ := HCC.out _ _ r2 d3
        go_wp2_with fail
        refine (HP.out _ e3).mono ?_
        rintro e u4 ⟨v', rfl, ho, b4⟩
        have e4 := e3.trans (b4.mono e3.size)
        have d4 := hb.trans (e4.mono hb.size)
        have HO2 := Lib.hid ho
        clear ho c0 c1' c2' c3 c4 c5 c6
        cases pb
        · have HR := Lib.hid (show takeS ls (ys.take (k + 1)) xs = (M, C) from HT.out)
          go_wp2
          refine ⟨⟨k + 1, by omega, by go_num, by rw [HR.out], ?_, d4⟩, by simp only [intOf]; omega⟩
          rw [HR.out]
          exact (HW.out.below e4 (Nat.le_refl _)).wide (Nat.le_refl _) e4.size
        · have HR := Lib.hid (show takeS ls (ys.take (k + 1)) xs = (M2, C + 1) from HT.out)
          go_wp2
          refine ⟨⟨k + 1, by omega, by go_num, by rw [HR.out]; go_num, ?_, d4⟩, by simp only [intOf]; omega⟩
          rw [HR.out]
          exact HO2.out.wide (Nat.le_trans hb.size e3.size) (Nat.le_refl _)
    · go_wp2
      go_ret2
      obtain rfl : k = ys.length := by omega
      rw [List.take_of_length_le (Nat.le_refl _)] at hown ⊢
      exact ⟨_, rfl, hown, hb⟩
set_option maxHeartbeats 8000000 in
set_option maxRecDepth 100000 in
theorem impl_takeStated (w : World) (hl h1 h2 cl c1 c2 : Nat) (al a1 a2 : Option Addr) (ls : List IssuerD) (xs : List FactD) (ys : List StatedD) (H0 : RowIssuer w hl (.slice al ls.length cl) ls) (H1 : RowFact w h1 (.slice a1 xs.length c1) xs) (H2 : RowStated w h2 (.slice a2 ys.length c2) ys)
    (hh0 : hl ≤ w.heap.size) (hh1 : h1 ≤ w.heap.size) (hh2 : h2 ≤ w.heap.size) (hwf : ∀ x ∈ ls, (Lit.int .i64 x.Id).wf = true ∧ (Lit.int .i64 x.Secret).wf = true) (hyw : ∀ y ∈ ys, y.Fact.wf) (hn : xs.length ≤ 1048576) (hK : NoKey w) :
    Calls Tryz.prog 15 #[.slice al ls.length cl, .slice a1 xs.length c1, .slice a2 ys.length c2] w fun e w' => ∃ u, e = .returned (.tuple #[u, .int .i64 ((takeS ls ys xs).2 : Int)]) ∧ OwnFact w' w.heap.size w'.heap.size u (takeS ls ys xs).1 ∧ Below w.heap.size w w' := by
  obtain ⟨m1, m2⟩ := H2.fits
  unfold maxLen at m2
  have HA := Lib.hid H0
  have HY := Lib.hid H2
  have HWF := Lib.hid hwf
  have HYW := Lib.hid hyw
  have HN := Lib.hid hK
  have HCP := Lib.hid (impl_copyFacts w h1 c1 a1 xs H1 hh1 hn)
  clear H0 H1 H2 hwf hyw hK
  go_enter Tryz.func15, Tryz.ntmps15
  go_wp2_with fail
  refine HCP.out.mono ?_
  rintro e u1 ⟨v, rfl, ho, b1⟩
  have HO := Lib.hid ho
  clear ho
  go_wp2
  go_loopw [8, 9, 18] (fun v n i wr => ∃ k : Nat, k ≤ ys.length ∧ i = .int .i64 (k : Int) ∧ n = .int .i64 ((takeS ls (ys.take k) xs).2 : Int) ∧ OwnFact wr w.heap.size wr.heap.size v (takeS ls (ys.take k) xs).1 ∧ Below w.heap.size w wr) (fun _ _ i _ => ys.length - (intOf i).toNat)
  case atStart => exact ⟨0, Nat.zero_le _, rfl, rfl, by rw [List.take_zero]; exact HO.out, b1⟩
  case round =>
    obtain ⟨k, hk, rfl, rfl, hown, hb⟩ := hrel
    by_cases hlt : k < ys.length
    · obtain ⟨y, hy⟩ : ∃ y, ys[k]? = some y := ⟨_, List.getElem?_eq_getElem hlt⟩
      have HS := Lib.hid (takeS_take (ls := ls) hy xs)
      have hm := takeS_len ls (ys.take k) xs 1048576 (by decide) hn
      have hcn := takeS_count ls (ys.take k) xs
      have hyf := HYW.out y (List.mem_of_getElem? hy)
      rw [List.length_take] at hcn
      have hcn2 : (takeS ls (ys.take k) xs).2 < ys.length := by omega
      clear hcn
      obtain ⟨bl, hbl⟩ : ∃ bl, believedB ls y.Fact y.Mark = bl := ⟨_, rfl⟩
      generalize hM : (takeS ls (ys.take k) xs).1 = M at hown hm
      generalize hC : (takeS ls (ys.take k) xs).2 = C at hcn2 ⊢
      have hMC : takeS ls (ys.take k) xs = (M, C) := by rw [← hM, ← hC]
      rw [hMC] at HS
      obtain ⟨M2, hM2⟩ : ∃ M2, (putF M y.Fact).1 = M2 := ⟨_, rfl⟩
      obtain ⟨pb, hpb⟩ : ∃ pb, (putF M y.Fact).2 = pb := ⟨_, rfl⟩
      have HT := Lib.hid (show takeS ls (ys.take (k + 1)) xs = if bl then (if pb then (M2, C + 1) else (M, C)) else (M, C) by
        rw [HS.out]
        unfold stepT
        rw [hbl, hpb, hM2])
      obtain ⟨⟨p0, p1, p2, p3, p4, p5⟩, p6⟩ := y
      dsimp only at hbl hM2 hpb hyf
      obtain ⟨b, off, rfl, r1, r2, HCY⟩ := RowStated.at HY.out hy
      obtain ⟨c0, c1', c2', c3, c4, c5, c6⟩ := HCY _ _ r2 hb
      have HB := Lib.hid (fun (U : World) (hU : Below w.heap.size w U) => show Calls Tryz.prog 9 #[.slice al ls.length cl, .agg #[.int .i64 p0, .int .i64 p1, .int .i64 p2, .int .i64 p3, .int .i64 p4, .int .i64 p5, .int .i64 p6]] U fun e w' => e = .returned (.bool bl) ∧ Below U.heap.size U w' from
        hbl ▸ impl_isBelieved U hl cl al ls p0 p1 p2 p3 p4 p5 p6 (HA.out.below IssuerR.fine hU hh0) (Nat.le_trans hh0 hU.size) HWF.out hyf (HN.out.kept hU))
      have hr := hown.read
      obtain ⟨_, A, cp, rfl, _⟩ := id hr
      have HP := Lib.hid (fun (U : World) (hU : Below wr.heap.size wr U) => show Calls Tryz.prog 51 #[.slice A M.length cp, .agg #[.int .i64 p0, .int .i64 p1, .int .i64 p2, .int .i64 p3, .int .i64 p4, .int .i64 p5]] U fun e w' => ∃ v', e = .returned (.tuple #[v', .bool pb]) ∧ OwnFact w' U.heap.size w'.heap.size v' M2 ∧ Below U.heap.size U w' from by
        have := impl_putFact U wr.heap.size cp A M ⟨p0, p1, p2, p3, p4, p5⟩ (hr.below hU (Nat.le_refl _)) hU.size hm
        rw [hpb, hM2] at this
        exact this)
      have HW := Lib.hid hown
      have HCC := Lib.hid HCY
      clear hM2 hpb hbl hM hC hMC HS hr hown hy hyf HCY
      obtain ⟨W1, hW1⟩ : ∃ W1, W1 = wr.alloc (.cells #[.int .i64 p0, .int .i64 p1, .int .i64 p2, .int .i64 p3, .int .i64 p4, .int .i64 p5, .int .i64 p6] 32) := ⟨_, rfl⟩
      have b2 : Below wr.heap.size wr W1 := by rw [hW1]; go_grown
      have d2 := hb.trans (b2.mono hb.size)
      have z2 : wr.heap.size < W1.heap.size := by rw [hW1]; simp
      have HX := Lib.hid (show W1.heap[wr.heap.size]? = some (.cells #[.int .i64 p0, .int .i64 p1, .int .i64 p2, .int .i64 p3, .int .i64 p4, .int .i64 p5, .int .i64 p6] 32) by rw [hW1]; exact blk_new _ _ _)
      go_upto_region 6 with fail
      rw [← hW1]
      clear hW1 c0 c1' c2' c3 c4 c5 c6
      obtain ⟨⟨c0, c1', c2', c3, c4, c5, c6⟩, -⟩ := cells7 HX.out
      go_wp2_with fail
      refine (HB.out _ d2).mono ?_
      rintro e u3 ⟨rfl, b3⟩
      have e3 := b2.trans (b3.mono b2.size)
      have d3 := hb.trans (e3.mono hb.size)
      clear c0 c1' c2' c3 c4 c5 c6
      cases bl
      · have HR := Lib.hid (show takeS ls (ys.take (k + 1)) xs = (M, C) from HT.out)
        go_wp2
        refine ⟨⟨k + 1, by omega, by go_num, by rw [HR.out], ?_, d3⟩, by simp only [intOf]; omega⟩
        rw [HR.out]
        exact (HW.out.below e3 (Nat.le_refl _)).wide (Nat.le_refl _) e3.size
      · obtain ⟨⟨c0, c1', c2', c3, c4, c5, c6⟩, -⟩ := cells7 (blk_keep HX.out b3 z2)
        go_wp2_with fail
        refine (HP.out _ e3).mono ?_
        rintro e u4 ⟨v', rfl, ho, b4⟩
        have e4 := e3.trans (b4.mono e3.size)
        have d4 := hb.trans (e4.mono hb.size)
        have HO2 := Lib.hid ho
        clear ho c0 c1' c2' c3 c4 c5 c6
        cases pb
        · have HR := Lib.hid (show takeS ls (ys.take (k + 1)) xs = (M, C) from HT.out)
          go_wp2
          refine ⟨⟨k + 1, by omega, by go_num, by rw [HR.out], ?_, d4⟩, by simp only [intOf]; omega⟩
          rw [HR.out]
          exact (HW.out.below e4 (Nat.le_refl _)).wide (Nat.le_refl _) e4.size
        · have HR := Lib.hid (show takeS ls (ys.take (k + 1)) xs = (M2, C + 1) from HT.out)
          go_wp2
          refine ⟨⟨k + 1, by omega, by go_num, by rw [HR.out]; go_num, ?_, d4⟩, by simp only [intOf]; omega⟩
          rw [HR.out]
          exact HO2.out.wide (Nat.le_trans hb.size e3.size) (Nat.le_refl _)
    · go_wp2
      go_ret2
      obtain rfl : k = ys.length := by omega
      rw [List.take_of_length_le (Nat.le_refl _)] at hown ⊢
      exact ⟨_, rfl, hown, hb⟩
end Go.Proofs.YtjfmmingkciapaaGreatDoor
