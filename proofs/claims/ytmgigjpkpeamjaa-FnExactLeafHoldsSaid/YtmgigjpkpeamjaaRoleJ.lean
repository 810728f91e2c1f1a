/- Roles (chapter 14): contracts of the landed functions: what a method value answers of each role, listed. No condition. -/
import Derived.Test.YtmgigjpkpeamjaaRoleI
import Derived.Test.YtmgigjpkpeamjaaMOne
namespace Go.Proofs.Ytmgigjpkpeamjaa
open Go.ChangeShapes Go.WideShapes Go.ChangeAt Go.RowKit
set_option linter.unusedVariables false

set_option maxHeartbeats 4000000 in
set_option maxRecDepth 100000 in
theorem impl_rolesThat_has (m : Role.Marks) (w : World) :
    Calls Try.prog 79 #[.func (.func 81) #[.agg #[.bool (m 0), .bool (m 1), .bool (m 2), .bool (m 3), .bool (m 4), .bool (m 5)]] #[]] w fun e w' => ∃ u, e = .returned u ∧ Own 3 .i64 w' w.heap.size w'.heap.size u (Role.rolesL m) ∧ Below w.heap.size w w' := by
  obtain ⟨i1, hi1, hz1, hz2, hz3⟩ := info_parts (show (Try.prog.info? 3).map (fun i => (i.zero, i.size, i.bytes)) = some (some (.int .i64 0), 1, 8) by kernel_rfl)
  have hE := Own.empty 3 .i64 w
  have hb0 : Below w.heap.size w (w.alloc (.cells #[] 3)) := (Below.refl _ _).alloc (Nat.le_refl _) _
  obtain ⟨M, hM⟩ : ∃ M : Role.Marks, m = M := ⟨_, rfl⟩
  have HC := Lib.hid (fun (k : Nat) (hk : k < 6) (W : World) => show Calls Try.prog 81 #[.agg #[.bool (m 0), .bool (m 1), .bool (m 2), .bool (m 3), .bool (m 4), .bool (m 5)], .int .i64 (k : Int)] W fun e w' => e = .returned (.bool (M (k : Int))) ∧ Below W.heap.size W w' by
    have h := impl_has m (k : Int) W
    rw [Role.inR_of k hk, Bool.true_and] at h
    rw [← hM]
    exact h)
  obtain ⟨R, hR⟩ : ∃ R, Role.rolesL m = R := ⟨_, rfl⟩
  have HR := Lib.hid (show R = Role.upTo M 6 by rw [← hR, hM]; rfl)
  rw [hR]
  clear hR hM
  generalize m 0 = m0 at HC ⊢
  generalize m 1 = m1 at HC ⊢
  generalize m 2 = m2 at HC ⊢
  generalize m 3 = m3 at HC ⊢
  generalize m 4 = m4 at HC ⊢
  generalize m 5 = m5 at HC ⊢
  go_enter Try.func79, Try.ntmps79
  go_wp2
  go_loopw [3, 6] (fun v i wr => ∃ k : Nat, k ≤ 6 ∧ i = .int .i64 (k : Int) ∧ Hid (Own 3 .i64 wr w.heap.size wr.heap.size v (Role.upTo M k)) ∧ Below w.heap.size w wr) (fun _ i _ => 6 - (intOf i).toNat)
  case atStart => exact ⟨0, Nat.zero_le _, rfl, Lib.hid (hE.wide (Nat.le_refl _) (by rw [size_alloc]; exact Nat.le_refl _)), hb0⟩
  case round =>
    clear hE hb0
    obtain ⟨k, hk, rfl, HO, hb⟩ := hrel
    by_cases hlt : k < 6
    · have HT := Lib.hid (Role.upTo_succ M k hlt)
      have hl := Role.upTo_len M k
      have HK := Lib.hid (HC.out k hlt)
      obtain ⟨t, ht⟩ : ∃ t, M (k : Int) = t := ⟨_, rfl⟩
      rw [ht] at HK HT
      clear ht
      go_wp2_with fail
      refine (HK.out _).mono ?_
      rintro e u ⟨rfl, b1⟩
      have d1 := hb.trans (b1.mono hb.size)
      have HO2 := Lib.hid ((HO.out.below b1 (Nat.le_refl _)).wide (Nat.le_refl _) b1.size)
      clear HO
      cases t
      · have HT2 := Lib.hid (show Role.upTo M (k + 1) = Role.upTo M k by rw [HT.out]; exact List.append_nil _)
        clear HT
        go_wp2
        refine ⟨⟨k + 1, by omega, by go_num, ?_, d1⟩, by simp only [intOf]; omega⟩
        rw [HT2.out]
        exact HO2
      · have HT2 := Lib.hid (show Role.upTo M (k + 1) = Role.upTo M k ++ [(k : Int)] by rw [HT.out]; rfl)
        clear HT
        have hba : Below w.heap.size w (u.alloc (.cells #[.int .i64 (k : Int)] 3)) := d1.alloc d1.size _
        have hoa := (HO2.out.below ((Below.refl u.heap.size u).alloc (Nat.le_refl _) (.cells #[.int .i64 (k : Int)] 3)) (Nat.le_refl _))
        have hr1 := row_one .i64 3 u (k : Int) (wf_i64 (by omega) (by omega))
        have hs := hba.size
        go_wp2_with (at_builtin; refine wpList_append_Own rfl _ _ _ rfl 3 i1 (.int .i64 0) 8 Try.underlying82 hi1 hz1 hz2 hz3 rfl .i64 w.heap.size _ _ _ rfl hoa _ _ _ rfl hr1 (by simp only [List.length_singleton]; omega) (by decide) hs ?_; intro v' w' q1 q2)
        refine ⟨⟨k + 1, by omega, by go_num, ?_, hba.trans q2⟩, by simp only [intOf]; omega⟩
        rw [HT2.out]
        exact Lib.hid q1
    · obtain h6 : k = 6 := by omega
      have HO2 := Lib.hid (show Own 3 .i64 wr w.heap.size wr.heap.size u3 R by rw [HR.out]; have h7 := HO.out; rwa [h6] at h7)
      go_wp2
      go_ret
      exact ⟨_, rfl, HO2.out, hb⟩
set_option maxHeartbeats 4000000 in
set_option maxRecDepth 100000 in
theorem impl_rolesThat_lacks (m : Role.Marks) (w : World) :
    Calls Try.prog 79 #[.func (.func 88) #[.agg #[.bool (m 0), .bool (m 1), .bool (m 2), .bool (m 3), .bool (m 4), .bool (m 5)]] #[]] w fun e w' => ∃ u, e = .returned u ∧ Own 3 .i64 w' w.heap.size w'.heap.size u (Role.rolesL (fun r => !(m r))) ∧ Below w.heap.size w w' := by
  obtain ⟨i1, hi1, hz1, hz2, hz3⟩ := info_parts (show (Try.prog.info? 3).map (fun i => (i.zero, i.size, i.bytes)) = some (some (.int .i64 0), 1, 8) by kernel_rfl)
  have hE := Own.empty 3 .i64 w
  have hb0 : Below w.heap.size w (w.alloc (.cells #[] 3)) := (Below.refl _ _).alloc (Nat.le_refl _) _
  obtain ⟨M, hM⟩ : ∃ M : Role.Marks, (fun r => !(m r)) = M := ⟨_, rfl⟩
  have HC := Lib.hid (fun (k : Nat) (hk : k < 6) (W : World) => show Calls Try.prog 88 #[.agg #[.bool (m 0), .bool (m 1), .bool (m 2), .bool (m 3), .bool (m 4), .bool (m 5)], .int .i64 (k : Int)] W fun e w' => e = .returned (.bool (M (k : Int))) ∧ Below W.heap.size W w' by
    have h := impl_lacks m (k : Int) W
    rw [Role.inR_of k hk, Bool.true_and] at h
    rw [← hM]
    exact h)
  obtain ⟨R, hR⟩ : ∃ R, Role.rolesL (fun r => !(m r)) = R := ⟨_, rfl⟩
  have HR := Lib.hid (show R = Role.upTo M 6 by rw [← hR, hM]; rfl)
  rw [hR]
  clear hR hM
  generalize m 0 = m0 at HC ⊢
  generalize m 1 = m1 at HC ⊢
  generalize m 2 = m2 at HC ⊢
  generalize m 3 = m3 at HC ⊢
  generalize m 4 = m4 at HC ⊢
  generalize m 5 = m5 at HC ⊢
  go_enter Try.func79, Try.ntmps79
  go_wp2
  go_loopw [3, 6] (fun v i wr => ∃ k : Nat, k ≤ 6 ∧ i = .int .i64 (k : Int) ∧ Hid (Own 3 .i64 wr w.heap.size wr.heap.size v (Role.upTo M k)) ∧ Below w.heap.size w wr) (fun _ i _ => 6 - (intOf i).toNat)
  case atStart => exact ⟨0, Nat.zero_le _, rfl, Lib.hid (hE.wide (Nat.le_refl _) (by rw [size_alloc]; exact Nat.le_refl _)), hb0⟩
  case round =>
    clear hE hb0
    obtain ⟨k, hk, rfl, HO, hb⟩ := hrel
    by_cases hlt : k < 6
    · have HT := Lib.hid (Role.upTo_succ M k hlt)
      have hl := Role.upTo_len M k
      have HK := Lib.hid (HC.out k hlt)
      obtain ⟨t, ht⟩ : ∃ t, M (k : Int) = t := ⟨_, rfl⟩
      rw [ht] at HK HT
      clear ht
      go_wp2_with fail
      refine (HK.out _).mono ?_
      rintro e u ⟨rfl, b1⟩
      have d1 := hb.trans (b1.mono hb.size)
      have HO2 := Lib.hid ((HO.out.below b1 (Nat.le_refl _)).wide (Nat.le_refl _) b1.size)
      clear HO
      cases t
      · have HT2 := Lib.hid (show Role.upTo M (k + 1) = Role.upTo M k by rw [HT.out]; exact List.append_nil _)
        clear HT
        go_wp2
        refine ⟨⟨k + 1, by omega, by go_num, ?_, d1⟩, by simp only [intOf]; omega⟩
        rw [HT2.out]
        exact HO2
      · have HT2 := Lib.hid (show Role.upTo M (k + 1) = Role.upTo M k ++ [(k : Int)] by rw [HT.out]; rfl)
        clear HT
        have hba : Below w.heap.size w (u.alloc (.cells #[.int .i64 (k : Int)] 3)) := d1.alloc d1.size _
        have hoa := (HO2.out.below ((Below.refl u.heap.size u).alloc (Nat.le_refl _) (.cells #[.int .i64 (k : Int)] 3)) (Nat.le_refl _))
        have hr1 := row_one .i64 3 u (k : Int) (wf_i64 (by omega) (by omega))
        have hs := hba.size
        go_wp2_with (at_builtin; refine wpList_append_Own rfl _ _ _ rfl 3 i1 (.int .i64 0) 8 Try.underlying82 hi1 hz1 hz2 hz3 rfl .i64 w.heap.size _ _ _ rfl hoa _ _ _ rfl hr1 (by simp only [List.length_singleton]; omega) (by decide) hs ?_; intro v' w' q1 q2)
        refine ⟨⟨k + 1, by omega, by go_num, ?_, hba.trans q2⟩, by simp only [intOf]; omega⟩
        rw [HT2.out]
        exact Lib.hid q1
    · obtain h6 : k = 6 := by omega
      have HO2 := Lib.hid (show Own 3 .i64 wr w.heap.size wr.heap.size u3 R by rw [HR.out]; have h7 := HO.out; rwa [h6] at h7)
      go_wp2
      go_ret
      exact ⟨_, rfl, HO2.out, hb⟩
end Go.Proofs.Ytmgigjpkpeamjaa
