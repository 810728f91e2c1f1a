/- Roles (chapter 14): contracts of the landed functions: sets of roles as arrays by value. No condition. -/
import Derived.Test.YtmgigjpkpeamjaaRoleN
import Derived.Test.YtmgigjpkpeamjaaInts
import Derived.Test.YtmgigjpkpeamjaaMCellI
import Derived.Test.YtmgigjpkpeamjaaMRequestT
import Derived.Test.YtmgigjpkpeamjaaCellS
import Derived.Deep.RegionHeld3
import Derived.Handy
namespace Go.Proofs.Ytmgigjpkpeamjaa
open Go.ChangeShapes Go.WideShapes Go.ChangeAt Go.RowKit
set_option linter.unusedVariables false

theorem impl_isRole (r : Int) (w : World) : Calls Try.prog 89 #[.int .i64 r] w fun e w' => e = .returned (.bool (Role.inR r)) ∧ w = w' := by
  have HC := Lib.hid (fun W => impl_range r 0 5 W)
  unfold Role.inR
  generalize decide (0 ≤ r ∧ r ≤ 5) = v at HC ⊢
  go_enter Try.func89, Try.ntmps89
  go_wp2_with fail
  refine (HC.out _).mono ?_
  rintro e w' ⟨rfl, rfl⟩
  go_wp2
  go_ret
  exact ⟨rfl, rfl⟩
theorem impl_has (m : Role.Marks) (r : Int) (w : World) :
    Calls Try.prog 81 #[.agg #[.bool (m 0), .bool (m 1), .bool (m 2), .bool (m 3), .bool (m 4), .bool (m 5)], .int .i64 r] w fun e w' => e = .returned (.bool (Role.inR r && m r)) ∧ Below w.heap.size w w' := by
  have hb : Below w.heap.size w (w.alloc (.cells #[.bool (m 0), .bool (m 1), .bool (m 2), .bool (m 3), .bool (m 4), .bool (m 5)] 101)) := (Below.refl _ _).alloc (Nat.le_refl _) _
  obtain ⟨v, hv⟩ : ∃ v, Role.inR r = v := ⟨_, rfl⟩
  have HI := Lib.hid (fun W => hv ▸ impl_isRole r W)
  cases v
  · rw [hv, Bool.false_and]
    clear hv
    go_enter Try.func81, Try.ntmps81
    go_wp2_with fail
    refine (HI.out _).mono ?_
    rintro e w' ⟨rfl, rfl⟩
    go_wp2
    go_ret
    exact ⟨rfl, hb⟩
  · rw [hv, Bool.true_and]
    obtain ⟨k, hk, rfl⟩ := Role.inR_nat hv
    have hc := blk_cell (blk_new w 101 (Role.arrM m)) k (Role.arrM_at m k hk)
    unfold Role.arrM at hc
    obtain ⟨R, hR⟩ : ∃ R, m (k : Int) = R := ⟨_, rfl⟩
    rw [hR] at hc ⊢
    clear hv hR
    go_enter Try.func81, Try.ntmps81
    go_wp2_with fail
    refine (HI.out _).mono ?_
    rintro e w' ⟨rfl, rfl⟩
    go_wp2
    go_ret
    exact ⟨rfl, hb⟩
theorem impl_lacks (m : Role.Marks) (r : Int) (w : World) :
    Calls Try.prog 88 #[.agg #[.bool (m 0), .bool (m 1), .bool (m 2), .bool (m 3), .bool (m 4), .bool (m 5)], .int .i64 r] w fun e w' => e = .returned (.bool (!(Role.inR r && m r))) ∧ Below w.heap.size w w' := by
  have hb : Below w.heap.size w (w.alloc (.cells #[.bool (m 0), .bool (m 1), .bool (m 2), .bool (m 3), .bool (m 4), .bool (m 5)] 101)) := (Below.refl _ _).alloc (Nat.le_refl _) _
  have HC := Lib.hid (fun W => impl_has m r W)
  generalize (Role.inR r && m r) = v at HC ⊢
  go_enter Try.func88, Try.ntmps88
  go_wp2_with fail
  refine (HC.out _).mono ?_
  rintro e w' ⟨rfl, b1⟩
  go_wp2
  go_ret
  exact ⟨rfl, hb.trans (b1.mono hb.size)⟩
set_option maxHeartbeats 2000000 in
set_option maxRecDepth 100000 in
theorem impl_withRole (m : Role.Marks) (r : Int) (w : World) :
    Calls Try.prog 86 #[.agg #[.bool (m 0), .bool (m 1), .bool (m 2), .bool (m 3), .bool (m 4), .bool (m 5)], .int .i64 r] w fun e w' => (∃ n : Role.Marks, n = Role.withM m r ∧ e = .returned (.agg #[.bool (n 0), .bool (n 1), .bool (n 2), .bool (n 3), .bool (n 4), .bool (n 5)])) ∧ Below w.heap.size w w' := by
  obtain ⟨v, hv⟩ : ∃ v, Role.inR r = v := ⟨_, rfl⟩
  have HI := Lib.hid (fun W => hv ▸ impl_isRole r W)
  cases v
  · have hn : Role.withM m r = m := Role.withM_no hv
    rw [hn]
    clear hv hn
    go_enter Try.func86, Try.ntmps86
    go_wp2_with fail
    refine (HI.out _).mono ?_
    rintro e w' ⟨rfl, rfl⟩
    go_wp2
    refine bodyPost_ret (v := .agg #[.bool (m 0), .bool (m 1), .bool (m 2), .bool (m 3), .bool (m 4), .bool (m 5)]) (by simp [results, Try.results86, go_sem]) rfl ⟨⟨_, rfl, rfl⟩, ?_⟩
    go_grown
  · obtain ⟨k, hk, rfl⟩ := Role.inR_nat hv
    have HN : ∀ q : Int, Role.withM m (k : Int) q = (m q || (q == (k : Int))) := fun q => by unfold Role.withM; rw [hv, Bool.true_and]
    generalize Role.withM m (k : Int) = n at HN
    have h0 := HN 0
    have h1 := HN 1
    have h2 := HN 2
    have h3 := HN 3
    have h4 := HN 4
    have h5 := HN 5
    clear hv HN
    match k, hk with
    | 0, _ =>
      have e0 : n 0 = true := by rw [h0]; simp
      have e1 : n 1 = m 1 := by rw [h1]; simp
      have e2 : n 2 = m 2 := by rw [h2]; simp
      have e3 : n 3 = m 3 := by rw [h3]; simp
      have e4 : n 4 = m 4 := by rw [h4]; simp
      have e5 : n 5 = m 5 := by rw [h5]; simp
      clear h0 h1 h2 h3 h4 h5
      have E := Lib.hid (And.intro e0 (And.intro e1 (And.intro e2 (And.intro e3 (And.intro e4 e5)))))
      clear e0 e1 e2 e3 e4 e5
      go_enter Try.func86, Try.ntmps86
      go_wp2_with fail
      refine (HI.out _).mono ?_
      rintro e w' ⟨rfl, rfl⟩
      go_wp2
      obtain ⟨e0, e1, e2, e3, e4, e5⟩ := E.out
      refine bodyPost_ret (v := .agg #[.bool true, .bool (m 1), .bool (m 2), .bool (m 3), .bool (m 4), .bool (m 5)]) (by simp [results, Try.results86, go_sem]) rfl ⟨⟨n, rfl, by rw [e0, e1, e2, e3, e4, e5]⟩, ?_⟩
      go_grown
    | 1, _ =>
      have e0 : n 0 = m 0 := by rw [h0]; simp
      have e1 : n 1 = true := by rw [h1]; simp
      have e2 : n 2 = m 2 := by rw [h2]; simp
      have e3 : n 3 = m 3 := by rw [h3]; simp
      have e4 : n 4 = m 4 := by rw [h4]; simp
      have e5 : n 5 = m 5 := by rw [h5]; simp
      clear h0 h1 h2 h3 h4 h5
      have E := Lib.hid (And.intro e0 (And.intro e1 (And.intro e2 (And.intro e3 (And.intro e4 e5)))))
      clear e0 e1 e2 e3 e4 e5
      go_enter Try.func86, Try.ntmps86
      go_wp2_with fail
      refine (HI.out _).mono ?_
      rintro e w' ⟨rfl, rfl⟩
      go_wp2
      obtain ⟨e0, e1, e2, e3, e4, e5⟩ := E.out
      refine bodyPost_ret (v := .agg #[.bool (m 0), .bool true, .bool (m 2), .bool (m 3), .bool (m 4), .bool (m 5)]) (by simp [results, Try.results86, go_sem]) rfl ⟨⟨n, rfl, by rw [e0, e1, e2, e3, e4, e5]⟩, ?_⟩
      go_grown
    | 2, _ =>
      have e0 : n 0 = m 0 := by rw [h0]; simp
      have e1 : n 1 = m 1 := by rw [h1]; simp
      have e2 : n 2 = true := by rw [h2]; simp
      have e3 : n 3 = m 3 := by rw [h3]; simp
      have e4 : n 4 = m 4 := by rw [h4]; simp
      have e5 : n 5 = m 5 := by rw [h5]; simp
      clear h0 h1 h2 h3 h4 h5
      have E := Lib.hid (And.intro e0 (And.intro e1 (And.intro e2 (And.intro e3 (And.intro e4 e5)))))
      clear e0 e1 e2 e3 e4 e5
      go_enter Try.func86, Try.ntmps86
      go_wp2_with fail
      refine (HI.out _).mono ?_
      rintro e w' ⟨rfl, rfl⟩
      go_wp2
      obtain ⟨e0, e1, e2, e3, e4, e5⟩ := E.out
      refine bodyPost_ret (v := .agg #[.bool (m 0), .bool (m 1), .bool true, .bool (m 3), .bool (m 4), .bool (m 5)]) (by simp [results, Try.results86, go_sem]) rfl ⟨⟨n, rfl, by rw [e0, e1, e2, e3, e4, e5]⟩, ?_⟩
      go_grown
    | 3, _ =>
      have e0 : n 0 = m 0 := by rw [h0]; simp
      have e1 : n 1 = m 1 := by rw [h1]; simp
      have e2 : n 2 = m 2 := by rw [h2]; simp
      have e3 : n 3 = true := by rw [h3]; simp
      have e4 : n 4 = m 4 := by rw [h4]; simp
      have e5 : n 5 = m 5 := by rw [h5]; simp
      clear h0 h1 h2 h3 h4 h5
      have E := Lib.hid (And.intro e0 (And.intro e1 (And.intro e2 (And.intro e3 (And.intro e4 e5)))))
      clear e0 e1 e2 e3 e4 e5
      go_enter Try.func86, Try.ntmps86
      go_wp2_with fail
      refine (HI.out _).mono ?_
      rintro e w' ⟨rfl, rfl⟩
      go_wp2
      obtain ⟨e0, e1, e2, e3, e4, e5⟩ := E.out
      refine bodyPost_ret (v := .agg #[.bool (m 0), .bool (m 1), .bool (m 2), .bool true, .bool (m 4), .bool (m 5)]) (by simp [results, Try.results86, go_sem]) rfl ⟨⟨n, rfl, by rw [e0, e1, e2, e3, e4, e5]⟩, ?_⟩
      go_grown
    | 4, _ =>
      have e0 : n 0 = m 0 := by rw [h0]; simp
      have e1 : n 1 = m 1 := by rw [h1]; simp
      have e2 : n 2 = m 2 := by rw [h2]; simp
      have e3 : n 3 = m 3 := by rw [h3]; simp
      have e4 : n 4 = true := by rw [h4]; simp
      have e5 : n 5 = m 5 := by rw [h5]; simp
      clear h0 h1 h2 h3 h4 h5
      have E := Lib.hid (And.intro e0 (And.intro e1 (And.intro e2 (And.intro e3 (And.intro e4 e5)))))
      clear e0 e1 e2 e3 e4 e5
      go_enter Try.func86, Try.ntmps86
      go_wp2_with fail
      refine (HI.out _).mono ?_
      rintro e w' ⟨rfl, rfl⟩
      go_wp2
      obtain ⟨e0, e1, e2, e3, e4, e5⟩ := E.out
      refine bodyPost_ret (v := .agg #[.bool (m 0), .bool (m 1), .bool (m 2), .bool (m 3), .bool true, .bool (m 5)]) (by simp [results, Try.results86, go_sem]) rfl ⟨⟨n, rfl, by rw [e0, e1, e2, e3, e4, e5]⟩, ?_⟩
      go_grown
    | 5, _ =>
      have e0 : n 0 = m 0 := by rw [h0]; simp
      have e1 : n 1 = m 1 := by rw [h1]; simp
      have e2 : n 2 = m 2 := by rw [h2]; simp
      have e3 : n 3 = m 3 := by rw [h3]; simp
      have e4 : n 4 = m 4 := by rw [h4]; simp
      have e5 : n 5 = true := by rw [h5]; simp
      clear h0 h1 h2 h3 h4 h5
      have E := Lib.hid (And.intro e0 (And.intro e1 (And.intro e2 (And.intro e3 (And.intro e4 e5)))))
      clear e0 e1 e2 e3 e4 e5
      go_enter Try.func86, Try.ntmps86
      go_wp2_with fail
      refine (HI.out _).mono ?_
      rintro e w' ⟨rfl, rfl⟩
      go_wp2
      obtain ⟨e0, e1, e2, e3, e4, e5⟩ := E.out
      refine bodyPost_ret (v := .agg #[.bool (m 0), .bool (m 1), .bool (m 2), .bool (m 3), .bool (m 4), .bool true]) (by simp [results, Try.results86, go_sem]) rfl ⟨⟨n, rfl, by rw [e0, e1, e2, e3, e4, e5]⟩, ?_⟩
      go_grown
theorem impl_isOfRoles (g b : Int) (w : World) :
    Calls Try.prog 87 #[.agg #[.int .i64 g, .int .i64 b]] w fun e w' => e = .returned (.bool (Role.okP (g, b))) ∧ Below w.heap.size w w' := by
  have hb : Below w.heap.size w (w.alloc (.cells #[.int .i64 g, .int .i64 b] 64)) := (Below.refl _ _).alloc (Nat.le_refl _) _
  have HG := Lib.hid (fun W => impl_isRole g W)
  have HB := Lib.hid (fun W => impl_isRole b W)
  unfold Role.okP
  dsimp only
  generalize Role.inR g = v at HG ⊢
  generalize Role.inR b = u at HB ⊢
  cases v
  all_goals
    go_enter Try.func87, Try.ntmps87
    go_wp2_with fail
    refine (HG.out _).mono ?_
    rintro e w' ⟨rfl, rfl⟩
  · go_wp2
    go_ret
    exact ⟨rfl, hb⟩
  · go_wp2_with fail
    refine (HB.out _).mono ?_
    rintro e w' ⟨rfl, rfl⟩
    go_wp2
    go_ret
    exact ⟨by simp, hb⟩
end Go.Proofs.Ytmgigjpkpeamjaa
