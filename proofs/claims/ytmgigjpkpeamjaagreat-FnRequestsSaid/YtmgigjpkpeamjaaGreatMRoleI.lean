/- Some texts in one: Req1, RoleI. -/
import Derived.Test.YtmgigjpkpeamjaaGreatMNamesI
import Derived.Test.YtmgigjpkpeamjaaGreatMDraw5
import Derived.Test.YtmgigjpkpeamjaaGreatMFacts
import Derived.Test.YtmgigjpkpeamjaaGreatCellS
import Derived.Test.YtmgigjpkpeamjaaGreatMBlk
import Derived.Deep.RegionHeld3
import Derived.Laws.StructEq
import Derived.Outline
import Derived.Test.YtmgigjpkpeamjaaGreatRoleN
import Derived.Test.YtmgigjpkpeamjaaGreatMInts
import Derived.Handy
/- Requests (chapter 17): contracts of the model. No condition but the bounds of what came in. -/
namespace Go.Proofs.YtmgigjpkpeamjaaGreat
open Go.ChangeShapes Go.WideShapes Go.ChangeAt Go.RowKit
set_option linter.unusedVariables false

theorem leafQ_1 (ls : List IncludesD) (xs : List FactD) (a b : Int) (q : RequestD) : leafQ ls xs 1 a b q = true := rfl
theorem leafQ_2 (ls : List IncludesD) (xs : List FactD) (a b : Int) (q : RequestD) : leafQ ls xs 2 a b q = hasI (Role.ofL (Role.prs ls) (valsF xs 1 q.Person q.Now b)) a := rfl
theorem leafQ_3 (ls : List IncludesD) (xs : List FactD) (a b : Int) (q : RequestD) : leafQ ls xs 3 a b q = decide (0 ≤ findF xs 2 q.Person q.Device q.Now b) := rfl
theorem leafQ_4 (ls : List IncludesD) (xs : List FactD) (a b : Int) (q : RequestD) : leafQ ls xs 4 a b q = decide (a ≤ bestF xs 3 q.Device q.Now b) := rfl
theorem leafQ_5 (ls : List IncludesD) (xs : List FactD) (a b : Int) (q : RequestD) : leafQ ls xs 5 a b q = decide (a ≤ bestF xs 4 q.Program q.Now b) := rfl
theorem leafQ_6 (ls : List IncludesD) (xs : List FactD) (a b : Int) (q : RequestD) : leafQ ls xs 6 a b q = decide (q.Now ≤ a) := rfl
theorem leafQ_no {o : Int} (h : ¬ (o = 1 ∨ o = 2 ∨ o = 3 ∨ o = 4 ∨ o = 5 ∨ o = 6)) (ls : List IncludesD) (xs : List FactD) (a b : Int) (q : RequestD) : leafQ ls xs o a b q = false := by
  unfold leafQ
  rw [if_neg (by omega), if_neg (by omega), if_neg (by omega), if_neg (by omega), if_neg (by omega), if_neg (by omega)]
/-- A boxed condition and a boxed request: what their blocks hold behind whatever turns nothing below. -/
theorem two_req (w : World) (o A B p d g k ob n : Int) (va : Value) (T T' : TypeId) :
    ∃ W : World, W = (w.alloc (.cells #[.int .i64 o, .int .i64 A, .int .i64 B, va] T)).alloc (.cells #[.int .i64 p, .int .i64 d, .int .i64 g, .int .i64 k, .int .i64 ob, .int .i64 n] T') ∧
      Below w.heap.size w W ∧ W.heap.size = w.heap.size + 2 ∧
      Hid (∀ w' : World, Below (w.heap.size + 2) W w' → (w'.cell? ⟨w.heap.size, 1, none⟩ = some (.int .i64 A) ∧ w'.cell? ⟨w.heap.size, 2, none⟩ = some (.int .i64 B)) ∧ (w'.cell? ⟨w.heap.size + 1, 1, none⟩ = some (.int .i64 d) ∧ w'.cell? ⟨w.heap.size + 1, 2, none⟩ = some (.int .i64 g) ∧ w'.cell? ⟨w.heap.size + 1, 5, none⟩ = some (.int .i64 n)) ∧ Below (w.heap.size + 2) W w') := by
  refine ⟨_, rfl, by go_grown, by simp, ?_⟩
  intro w' hb
  have hA : ∀ o : Nat, w'.cell? ⟨w.heap.size, o, none⟩ = _ := fun o => hb.cell (p := ⟨w.heap.size, o, none⟩) (by show w.heap.size < _; omega)
  have hB : ∀ o : Nat, w'.cell? ⟨w.heap.size + 1, o, none⟩ = _ := fun o => hb.cell (p := ⟨w.heap.size + 1, o, none⟩) (by show w.heap.size + 1 < _; omega)
  refine ⟨⟨(hA 1).trans ?_, (hA 2).trans ?_⟩, ⟨(hB 1).trans ?_, (hB 2).trans ?_, (hB 5).trans ?_⟩, hb⟩
  all_goals go_simp
end Go.Proofs.YtmgigjpkpeamjaaGreat
/- Roles (chapter 14): contracts of the landed functions: sets of roles as arrays by value. No condition. -/
namespace Go.Proofs.YtmgigjpkpeamjaaGreat
open Go.ChangeShapes Go.WideShapes Go.ChangeAt Go.RowKit
set_option linter.unusedVariables false

theorem impl_isRole (r : Int) (w : World) : Calls Tryz.prog 100 #[.int .i64 r] w fun e w' => e = .returned (.bool (Role.inR r)) ∧ w = w' := by
  have HC := Lib.hid (fun W => impl_range r 0 5 W)
  unfold Role.inR
  generalize decide (0 ≤ r ∧ r ≤ 5) = v at HC ⊢
  go_enter Tryz.func100, Tryz.ntmps100
  go_wp2_with fail
  refine (HC.out _).mono ?_
  rintro e w' ⟨rfl, rfl⟩
  go_wp2
  go_ret
  exact ⟨rfl, rfl⟩
theorem impl_has (m : Role.Marks) (r : Int) (w : World) :
    Calls Tryz.prog 93 #[.agg #[.bool (m 0), .bool (m 1), .bool (m 2), .bool (m 3), .bool (m 4), .bool (m 5)], .int .i64 r] w fun e w' => e = .returned (.bool (Role.inR r && m r)) ∧ Below w.heap.size w w' := by
  have hb : Below w.heap.size w (w.alloc (.cells #[.bool (m 0), .bool (m 1), .bool (m 2), .bool (m 3), .bool (m 4), .bool (m 5)] 109)) := (Below.refl _ _).alloc (Nat.le_refl _) _
  obtain ⟨v, hv⟩ : ∃ v, Role.inR r = v := ⟨_, rfl⟩
  have HI := Lib.hid (fun W => hv ▸ impl_isRole r W)
  cases v
  · rw [hv, Bool.false_and]
    clear hv
    go_enter Tryz.func93, Tryz.ntmps93
    go_wp2_with fail
    refine (HI.out _).mono ?_
    rintro e w' ⟨rfl, rfl⟩
    go_wp2
    go_ret
    exact ⟨rfl, hb⟩
  · rw [hv, Bool.true_and]
    obtain ⟨k, hk, rfl⟩ := Role.inR_nat hv
    have hc := blk_cell (blk_new w 109 (Role.arrM m)) k (Role.arrM_at m k hk)
    unfold Role.arrM at hc
    obtain ⟨R, hR⟩ : ∃ R, m (k : Int) = R := ⟨_, rfl⟩
    rw [hR] at hc ⊢
    clear hv hR
    go_enter Tryz.func93, Tryz.ntmps93
    go_wp2_with fail
    refine (HI.out _).mono ?_
    rintro e w' ⟨rfl, rfl⟩
    go_wp2
    go_ret
    exact ⟨rfl, hb⟩
theorem impl_lacks (m : Role.Marks) (r : Int) (w : World) :
    Calls Tryz.prog 99 #[.agg #[.bool (m 0), .bool (m 1), .bool (m 2), .bool (m 3), .bool (m 4), .bool (m 5)], .int .i64 r] w fun e w' => e = .returned (.bool (!(Role.inR r && m r))) ∧ Below w.heap.size w w' := by
  have hb : Below w.heap.size w (w.alloc (.cells #[.bool (m 0), .bool (m 1), .bool (m 2), .bool (m 3), .bool (m 4), .bool (m 5)] 109)) := (Below.refl _ _).alloc (Nat.le_refl _) _
  have HC := Lib.hid (fun W => impl_has m r W)
  generalize (Role.inR r && m r) = v at HC ⊢
  go_enter Tryz.func99, Tryz.ntmps99
  go_wp2_with fail
  refine (HC.out _).mono ?_
  rintro e w' ⟨rfl, b1⟩
  go_wp2
  go_ret
  exact ⟨rfl, hb.trans (b1.mono hb.size)⟩
set_option maxHeartbeats 2000000 in
set_option maxRecDepth 100000 in
theorem impl_withRole (m : Role.Marks) (r : Int) (w : World) :
    Calls Tryz.prog 97 #[.agg #[.bool (m 0), .bool (m 1), .bool (m 2), .bool (m 3), .bool (m 4), .bool (m 5)], .int .i64 r] w fun e w' => (∃ n : Role.Marks, n = Role.withM m r ∧ e = .returned (.agg #[.bool (n 0), .bool (n 1), .bool (n 2), .bool (n 3), .bool (n 4), .bool (n 5)])) ∧ Below w.heap.size w w' := by
  obtain ⟨v, hv⟩ : ∃ v, Role.inR r = v := ⟨_, rfl⟩
  have HI := Lib.hid (fun W => hv ▸ impl_isRole r W)
  cases v
  · have hn : Role.withM m r = m := Role.withM_no hv
    rw [hn]
    clear hv hn
    go_enter Tryz.func97, Tryz.ntmps97
    go_wp2_with fail
    refine (HI.out _).mono ?_
    rintro e w' ⟨rfl, rfl⟩
    go_wp2
    refine bodyPost_ret (v := .agg #[.bool (m 0), .bool (m 1), .bool (m 2), .bool (m 3), .bool (m 4), .bool (m 5)]) (by simp [results, Tryz.results97, go_sem]) rfl ⟨⟨_, rfl, rfl⟩, ?_⟩
    go_grown
  · obtain ⟨k, hk, rfl⟩ := Role.inR_nat hv
    have HN : ∀ q : Int, Role.withM m (k : Int) q = (m q || (q == (k : Int))) := fun q => by unfold Role.withM; rw [hv, Bool.true_and]
    generalize Role.withM m (k : Int) = n at HN
    have h0 := HN 0
    have h1 := HN 1
    have h2 := HN 2
    have h3 := HN 3
    have h4 := HN 4
    have h5 := HN 5
    clear hv HN
    match k, hk with
    | 0, _ =>
      have e0 : n 0 = true := by rw [h0]; simp
      have e1 : n 1 = m 1 := by rw [h1]; simp
      have e2 : n 2 = m 2 := by rw [h2]; simp
      have e3 : n 3 = m 3 := by rw [h3]; simp
      have e4 : n 4 = m 4 := by rw [h4]; simp
      have e5 : n 5 = m 5 := by rw [h5]; simp
      clear h0 h1 h2 h3 h4 h5
      have E := Lib.hid (And.intro e0 (And.intro e1 (And.intro e2 (And.intro e3 (And.intro e4 e5)))))
      clear e0 e1 e2 e3 e4 e5
      go_enter Tryz.func97, Tryz.ntmps97
      go_wp2_with fail
      refine (HI.out _).mono ?_
      rintro e w' ⟨rfl, rfl⟩
      go_wp2
      obtain ⟨e0, e1, e2, e3, e4, e5⟩ := E.out
      refine bodyPost_ret (v := .agg #[.bool true, .bool (m 1), .bool (m 2), .bool (m 3), .bool (m 4), .bool (m 5)]) (by simp [results, Tryz.results97, go_sem]) rfl ⟨⟨n, rfl, by rw [e0, e1, e2, e3, e4, e5]⟩, ?_⟩
      go_grown
    | 1, _ =>
      have e0 : n 0 = m 0 := by rw [h0]; simp
      have e1 : n 1 = true := by rw [h1]; simp
      have e2 : n 2 = m 2 := by rw [h2]; simp
      have e3 : n 3 = m 3 := by rw [h3]; simp
      have e4 : n 4 = m 4 := by rw [h4]; simp
      have e5 : n 5 = m 5 := by rw [h5]; simp
      clear h0 h1 h2 h3 h4 h5
      have E := Lib.hid (And.intro e0 (And.intro e1 (And.intro e2 (And.intro e3 (And.intro e4 e5)))))
      clear e0 e1 e2 e3 e4 e5
      go_enter Tryz.func97, Tryz.ntmps97
      go_wp2_with fail
      refine (HI.out _).mono ?_
      rintro e w' ⟨rfl, rfl⟩
      go_wp2
      obtain ⟨e0, e1, e2, e3, e4, e5⟩ := E.out
      refine bodyPost_ret (v := .agg #[.bool (m 0), .bool true, .bool (m 2), .bool (m 3), .bool (m 4), .bool (m 5)]) (by simp [results, Tryz.results97, go_sem]) rfl ⟨⟨n, rfl, by rw [e0, e1, e2, e3, e4, e5]⟩, ?_⟩
      go_grown
    | 2, _ =>
      have e0 : n 0 = m 0 := by rw [h0]; simp
      have e1 : n 1 = m 1 := by rw [h1]; simp
      have e2 : n 2 = true := by rw [h2]; simp
      have e3 : n 3 = m 3 := by rw [h3]; simp
      have e4 : n 4 = m 4 := by rw [h4]; simp
      have e5 : n 5 = m 5 := by rw [h5]; simp
      clear h0 h1 h2 h3 h4 h5
      have E := Lib.hid (And.intro e0 (And.intro e1 (And.intro e2 (And.intro e3 (And.intro e4 e5)))))
      clear e0 e1 e2 e3 e4 e5
      go_enter Tryz.func97, Tryz.ntmps97
      go_wp2_with fail
      refine (HI.out _).mono ?_
      rintro e w' ⟨rfl, rfl⟩
      go_wp2
      obtain ⟨e0, e1, e2, e3, e4, e5⟩ := E.out
      refine bodyPost_ret (v := .agg #[.bool (m 0), .bool (m 1), .bool true, .bool (m 3), .bool (m 4), .bool (m 5)]) (by simp [results, Tryz.results97, go_sem]) rfl ⟨⟨n, rfl, by rw [e0, e1, e2, e3, e4, e5]⟩, ?_⟩
      go_grown
    | 3, _ =>
      have e0 : n 0 = m 0 := by rw [h0]; simp
      have e1 : n 1 = m 1 := by rw [h1]; simp
      have e2 : n 2 = m 2 := by rw [h2]; simp
      have e3 : n 3 = true := by rw [h3]; simp
      have e4 : n 4 = m 4 := by rw [h4]; simp
      have e5 : n 5 = m 5 := by rw [h5]; simp
      clear h0 h1 h2 h3 h4 h5
      have E := Lib.hid (And.intro e0 (And.intro e1 (And.intro e2 (And.intro e3 (And.intro e4 e5)))))
      clear e0 e1 e2 e3 e4 e5
      go_enter Tryz.func97, Tryz.ntmps97
      go_wp2_with fail
      refine (HI.out _).mono ?_
      rintro e w' ⟨rfl, rfl⟩
      go_wp2
      obtain ⟨e0, e1, e2, e3, e4, e5⟩ := E.out
      refine bodyPost_ret (v := .agg #[.bool (m 0), .bool (m 1), .bool (m 2), .bool true, .bool (m 4), .bool (m 5)]) (by simp [results, Tryz.results97, go_sem]) rfl ⟨⟨n, rfl, by rw [e0, e1, e2, e3, e4, e5]⟩, ?_⟩
      go_grown
    | 4, _ =>
      have e0 : n 0 = m 0 := by rw [h0]; simp
      have e1 : n 1 = m 1 := by rw [h1]; simp
      have e2 : n 2 = m 2 := by rw [h2]; simp
      have e3 : n 3 = m 3 := by rw [h3]; simp
      have e4 : n 4 = true := by rw [h4]; simp
      have e5 : n 5 = m 5 := by rw [h5]; simp
      clear h0 h1 h2 h3 h4 h5
      have E := Lib.hid (And.intro e0 (And.intro e1 (And.intro e2 (And.intro e3 (And.intro e4 e5)))))
      clear e0 e1 e2 e3 e4 e5
      go_enter Tryz.func97, Tryz.ntmps97
      go_wp2_with fail
      refine (HI.out _).mono ?_
      rintro e w' ⟨rfl, rfl⟩
      go_wp2
      obtain ⟨e0, e1, e2, e3, e4, e5⟩ := E.out
      refine bodyPost_ret (v := .agg #[.bool (m 0), .bool (m 1), .bool (m 2), .bool (m 3), .bool true, .bool (m 5)]) (by simp [results, Tryz.results97, go_sem]) rfl ⟨⟨n, rfl, by rw [e0, e1, e2, e3, e4, e5]⟩, ?_⟩
      go_grown
    | 5, _ =>
      have e0 : n 0 = m 0 := by rw [h0]; simp
      have e1 : n 1 = m 1 := by rw [h1]; simp
      have e2 : n 2 = m 2 := by rw [h2]; simp
      have e3 : n 3 = m 3 := by rw [h3]; simp
      have e4 : n 4 = m 4 := by rw [h4]; simp
      have e5 : n 5 = true := by rw [h5]; simp
      clear h0 h1 h2 h3 h4 h5
      have E := Lib.hid (And.intro e0 (And.intro e1 (And.intro e2 (And.intro e3 (And.intro e4 e5)))))
      clear e0 e1 e2 e3 e4 e5
      go_enter Tryz.func97, Tryz.ntmps97
      go_wp2_with fail
      refine (HI.out _).mono ?_
      rintro e w' ⟨rfl, rfl⟩
      go_wp2
      obtain ⟨e0, e1, e2, e3, e4, e5⟩ := E.out
      refine bodyPost_ret (v := .agg #[.bool (m 0), .bool (m 1), .bool (m 2), .bool (m 3), .bool (m 4), .bool true]) (by simp [results, Tryz.results97, go_sem]) rfl ⟨⟨n, rfl, by rw [e0, e1, e2, e3, e4, e5]⟩, ?_⟩
      go_grown
theorem impl_isOfRoles (g b : Int) (w : World) :
    Calls Tryz.prog 98 #[.agg #[.int .i64 g, .int .i64 b]] w fun e w' => e = .returned (.bool (Role.okP (g, b))) ∧ Below w.heap.size w w' := by
  have hb : Below w.heap.size w (w.alloc (.cells #[.int .i64 g, .int .i64 b] 88)) := (Below.refl _ _).alloc (Nat.le_refl _) _
  have HG := Lib.hid (fun W => impl_isRole g W)
  have HB := Lib.hid (fun W => impl_isRole b W)
  unfold Role.okP
  dsimp only
  generalize Role.inR g = v at HG ⊢
  generalize Role.inR b = u at HB ⊢
  cases v
  all_goals
    go_enter Tryz.func98, Tryz.ntmps98
    go_wp2_with fail
    refine (HG.out _).mono ?_
    rintro e w' ⟨rfl, rfl⟩
  · go_wp2
    go_ret
    exact ⟨rfl, hb⟩
  · go_wp2_with fail
    refine (HB.out _).mono ?_
    rintro e w' ⟨rfl, rfl⟩
    go_wp2
    go_ret
    exact ⟨by simp, hb⟩
end Go.Proofs.YtmgigjpkpeamjaaGreat
