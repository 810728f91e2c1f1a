/- Some texts in one: RoleJ, IntC, RowA. -/
import Derived.Test.YtmgigjpkpeamjaaGreatMRoleI
import Derived.Test.YtmgigjpkpeamjaaGreatMOne
import Derived.Test.YtmgigjpkpeamjaaGreatRowC
import Derived.Test.YtmgigjpkpeamjaaGreatMBlk
import Derived.Test.YtmgigjpkpeamjaaGreatCellS
import Derived.Deep.MidRow
import Derived.Deep.WholeRow
/- Roles (chapter 14): contracts of the landed functions: what a method value answers of each role, listed. No condition. -/
namespace Go.Proofs.YtmgigjpkpeamjaaGreat
open Go.ChangeShapes Go.WideShapes Go.ChangeAt Go.RowKit
set_option linter.unusedVariables false

set_option maxHeartbeats 4000000 in
set_option maxRecDepth 100000 in
theorem impl_rolesThat_has (m : Role.Marks) (w : World) :
    Calls Tryz.prog 91 #[.func (.func 93) #[.agg #[.bool (m 0), .bool (m 1), .bool (m 2), .bool (m 3), .bool (m 4), .bool (m 5)]] #[]] w fun e w' => ∃ u, e = .returned u ∧ Own 3 .i64 w' w.heap.size w'.heap.size u (Role.rolesL m) ∧ Below w.heap.size w w' := by
  obtain ⟨i1, hi1, hz1, hz2, hz3⟩ := info_parts (show (Tryz.prog.info? 3).map (fun i => (i.zero, i.size, i.bytes)) = some (some (.int .i64 0), 1, 8) by kernel_rfl)
  have hE := Own.empty 3 .i64 w
  have hb0 : Below w.heap.size w (w.alloc (.cells #[] 3)) := (Below.refl _ _).alloc (Nat.le_refl _) _
  obtain ⟨M, hM⟩ : ∃ M : Role.Marks, m = M := ⟨_, rfl⟩
  have HC := Lib.hid (fun (k : Nat) (hk : k < 6) (W : World) => show Calls Tryz.prog 93 #[.agg #[.bool (m 0), .bool (m 1), .bool (m 2), .bool (m 3), .bool (m 4), .bool (m 5)], .int .i64 (k : Int)] W fun e w' => e = .returned (.bool (M (k : Int))) ∧ Below W.heap.size W w' by
    have h := impl_has m (k : Int) W
    rw [Role.inR_of k hk, Bool.true_and] at h
    rw [← hM]
    exact h)
  obtain ⟨R, hR⟩ : ∃ R, Role.rolesL m = R := ⟨_, rfl⟩
  have HR := Lib.hid (show R = Role.upTo M 6 by rw [← hR, hM]; rfl)
  rw [hR]
  clear hR hM
  generalize m 0 = m0 at HC ⊢
  generalize m 1 = m1 at HC ⊢
  generalize m 2 = m2 at HC ⊢
  generalize m 3 = m3 at HC ⊢
  generalize m 4 = m4 at HC ⊢
  generalize m 5 = m5 at HC ⊢
  go_enter Tryz.func91, Tryz.ntmps91
  go_wp2
  go_loopw [3, 6] (fun v i wr => ∃ k : Nat, k ≤ 6 ∧ i = .int .i64 (k : Int) ∧ Hid (Own 3 .i64 wr w.heap.size wr.heap.size v (Role.upTo M k)) ∧ Below w.heap.size w wr) (fun _ i _ => 6 - (intOf i).toNat)
  case atStart => exact ⟨0, Nat.zero_le _, rfl, Lib.hid (hE.wide (Nat.le_refl _) (by rw [size_alloc]; exact Nat.le_refl _)), hb0⟩
  case round =>
    clear hE hb0
    obtain ⟨k, hk, rfl, HO, hb⟩ := hrel
    by_cases hlt : k < 6
    · have HT := Lib.hid (Role.upTo_succ M k hlt)
      have hl := Role.upTo_len M k
      have HK := Lib.hid (HC.out k hlt)
      obtain ⟨t, ht⟩ : ∃ t, M (k : Int) = t := ⟨_, rfl⟩
      rw [ht] at HK HT
      clear ht
      go_wp2_with fail
      refine (HK.out _).mono ?_
      rintro e u ⟨rfl, b1⟩
      have d1 := hb.trans (b1.mono hb.size)
      have HO2 := Lib.hid ((HO.out.below b1 (Nat.le_refl _)).wide (Nat.le_refl _) b1.size)
      clear HO
      cases t
      · have HT2 := Lib.hid (show Role.upTo M (k + 1) = Role.upTo M k by rw [HT.out]; exact List.append_nil _)
        clear HT
        go_wp2
        refine ⟨⟨k + 1, by omega, by go_num, ?_, d1⟩, by simp only [intOf]; omega⟩
        rw [HT2.out]
        exact HO2
      · have HT2 := Lib.hid (show Role.upTo M (k + 1) = Role.upTo M k ++ [(k : Int)] by rw [HT.out]; rfl)
        clear HT
        have hba : Below w.heap.size w (u.alloc (.cells #[.int .i64 (k : Int)] 3)) := d1.alloc d1.size _
        have hoa := (HO2.out.below ((Below.refl u.heap.size u).alloc (Nat.le_refl _) (.cells #[.int .i64 (k : Int)] 3)) (Nat.le_refl _))
        have hr1 := row_one .i64 3 u (k : Int) (wf_i64 (by omega) (by omega))
        have hs := hba.size
        go_wp2_with (at_builtin; refine wpList_append_Own rfl _ _ _ rfl 3 i1 (.int .i64 0) 8 Tryz.underlying74 hi1 hz1 hz2 hz3 rfl .i64 w.heap.size _ _ _ rfl hoa _ _ _ rfl hr1 (by simp only [List.length_singleton]; omega) (by decide) hs ?_; intro v' w' q1 q2)
        refine ⟨⟨k + 1, by omega, by go_num, ?_, hba.trans q2⟩, by simp only [intOf]; omega⟩
        rw [HT2.out]
        exact Lib.hid q1
    · obtain h6 : k = 6 := by omega
      have HO2 := Lib.hid (show Own 3 .i64 wr w.heap.size wr.heap.size u3 R by rw [HR.out]; have h7 := HO.out; rwa [h6] at h7)
      go_wp2
      go_ret
      exact ⟨_, rfl, HO2.out, hb⟩
set_option maxHeartbeats 4000000 in
set_option maxRecDepth 100000 in
theorem impl_rolesThat_lacks (m : Role.Marks) (w : World) :
    Calls Tryz.prog 91 #[.func (.func 99) #[.agg #[.bool (m 0), .bool (m 1), .bool (m 2), .bool (m 3), .bool (m 4), .bool (m 5)]] #[]] w fun e w' => ∃ u, e = .returned u ∧ Own 3 .i64 w' w.heap.size w'.heap.size u (Role.rolesL (fun r => !(m r))) ∧ Below w.heap.size w w' := by
  obtain ⟨i1, hi1, hz1, hz2, hz3⟩ := info_parts (show (Tryz.prog.info? 3).map (fun i => (i.zero, i.size, i.bytes)) = some (some (.int .i64 0), 1, 8) by kernel_rfl)
  have hE := Own.empty 3 .i64 w
  have hb0 : Below w.heap.size w (w.alloc (.cells #[] 3)) := (Below.refl _ _).alloc (Nat.le_refl _) _
  obtain ⟨M, hM⟩ : ∃ M : Role.Marks, (fun r => !(m r)) = M := ⟨_, rfl⟩
  have HC := Lib.hid (fun (k : Nat) (hk : k < 6) (W : World) => show Calls Tryz.prog 99 #[.agg #[.bool (m 0), .bool (m 1), .bool (m 2), .bool (m 3), .bool (m 4), .bool (m 5)], .int .i64 (k : Int)] W fun e w' => e = .returned (.bool (M (k : Int))) ∧ Below W.heap.size W w' by
    have h := impl_lacks m (k : Int) W
    rw [Role.inR_of k hk, Bool.true_and] at h
    rw [← hM]
    exact h)
  obtain ⟨R, hR⟩ : ∃ R, Role.rolesL (fun r => !(m r)) = R := ⟨_, rfl⟩
  have HR := Lib.hid (show R = Role.upTo M 6 by rw [← hR, hM]; rfl)
  rw [hR]
  clear hR hM
  generalize m 0 = m0 at HC ⊢
  generalize m 1 = m1 at HC ⊢
  generalize m 2 = m2 at HC ⊢
  generalize m 3 = m3 at HC ⊢
  generalize m 4 = m4 at HC ⊢
  generalize m 5 = m5 at HC ⊢
  go_enter Tryz.func91, Tryz.ntmps91
  go_wp2
  go_loopw [3, 6] (fun v i wr => ∃ k : Nat, k ≤ 6 ∧ i = .int .i64 (k : Int) ∧ Hid (Own 3 .i64 wr w.heap.size wr.heap.size v (Role.upTo M k)) ∧ Below w.heap.size w wr) (fun _ i _ => 6 - (intOf i).toNat)
  case atStart => exact ⟨0, Nat.zero_le _, rfl, Lib.hid (hE.wide (Nat.le_refl _) (by rw [size_alloc]; exact Nat.le_refl _)), hb0⟩
  case round =>
    clear hE hb0
    obtain ⟨k, hk, rfl, HO, hb⟩ := hrel
    by_cases hlt : k < 6
    · have HT := Lib.hid (Role.upTo_succ M k hlt)
      have hl := Role.upTo_len M k
      have HK := Lib.hid (HC.out k hlt)
      obtain ⟨t, ht⟩ : ∃ t, M (k : Int) = t := ⟨_, rfl⟩
      rw [ht] at HK HT
      clear ht
      go_wp2_with fail
      refine (HK.out _).mono ?_
      rintro e u ⟨rfl, b1⟩
      have d1 := hb.trans (b1.mono hb.size)
      have HO2 := Lib.hid ((HO.out.below b1 (Nat.le_refl _)).wide (Nat.le_refl _) b1.size)
      clear HO
      cases t
      · have HT2 := Lib.hid (show Role.upTo M (k + 1) = Role.upTo M k by rw [HT.out]; exact List.append_nil _)
        clear HT
        go_wp2
        refine ⟨⟨k + 1, by omega, by go_num, ?_, d1⟩, by simp only [intOf]; omega⟩
        rw [HT2.out]
        exact HO2
      · have HT2 := Lib.hid (show Role.upTo M (k + 1) = Role.upTo M k ++ [(k : Int)] by rw [HT.out]; rfl)
        clear HT
        have hba : Below w.heap.size w (u.alloc (.cells #[.int .i64 (k : Int)] 3)) := d1.alloc d1.size _
        have hoa := (HO2.out.below ((Below.refl u.heap.size u).alloc (Nat.le_refl _) (.cells #[.int .i64 (k : Int)] 3)) (Nat.le_refl _))
        have hr1 := row_one .i64 3 u (k : Int) (wf_i64 (by omega) (by omega))
        have hs := hba.size
        go_wp2_with (at_builtin; refine wpList_append_Own rfl _ _ _ rfl 3 i1 (.int .i64 0) 8 Tryz.underlying74 hi1 hz1 hz2 hz3 rfl .i64 w.heap.size _ _ _ rfl hoa _ _ _ rfl hr1 (by simp only [List.length_singleton]; omega) (by decide) hs ?_; intro v' w' q1 q2)
        refine ⟨⟨k + 1, by omega, by go_num, ?_, hba.trans q2⟩, by simp only [intOf]; omega⟩
        rw [HT2.out]
        exact Lib.hid q1
    · obtain h6 : k = 6 := by omega
      have HO2 := Lib.hid (show Own 3 .i64 wr w.heap.size wr.heap.size u3 R by rw [HR.out]; have h7 := HO.out; rwa [h6] at h7)
      go_wp2
      go_ret
      exact ⟨_, rfl, HO2.out, hb⟩
end Go.Proofs.YtmgigjpkpeamjaaGreat
/- Slices of integers told by cells alone (whatever the integers): reading, one element. No condition; any program. -/
namespace Go.Proofs.YtmgigjpkpeamjaaGreat
open Go.ChangeShapes Go.WideShapes Go.ChangeAt Go.RowKit
set_option linter.unusedVariables false

abbrev RowI (w : World) (hi : Nat) (v : Value) (xs : List Int) : Prop := RowC 1 w hi v xs.length (xs.map (Value.int .i64))
abbrev OwnI (E : TypeId) (w : World) (lo hi : Nat) (v : Value) (xs : List Int) : Prop := OwnC E 1 w lo hi v xs.length (xs.map (Value.int .i64))
theorem rowI_at {w : World} {hi n c : Nat} {a : Option Addr} {xs : List Int} (h : RowI w hi (.slice a n c) xs) {k : Nat} {x : Int} (hx : xs[k]? = some x) :
    ∃ b off, a = some ⟨b, off, none⟩ ∧ b < hi ∧ b < w.heap.size ∧ w.cell? ⟨b, off + k, none⟩ = some (.int .i64 x) := by
  have hk : k < xs.length := (List.getElem?_eq_some_iff.1 hx).1
  obtain ⟨_, a', c', e, _, _, _, h5⟩ := h
  injection e with e1 e2 e3
  subst e1
  obtain ⟨b, off, rfl, g1, g2, g3⟩ := h5 (by omega)
  exact ⟨b, off, rfl, g1, g2, g3 k _ (by rw [List.getElem?_map, hx]; rfl)⟩
theorem rowI_one (T : TypeId) (w : World) (x : Int) : RowI (w.alloc (.cells #[.int .i64 x] T)) (w.heap.size + 1) (.slice (some ⟨w.heap.size, 0, none⟩) 1 1) [x] := rowC_one 1 T w [.int .i64 x] rfl
theorem rowI_of {w : World} {hi : Nat} {v : Value} {xs : List Int} (h : Row .i64 w hi v xs) : RowI w hi v xs := by
  obtain ⟨⟨a, c, rfl, h1, h2, h0, h3⟩, -⟩ := h
  refine ⟨by simp, a, c, rfl, h1, h2, h0, fun hp => ?_⟩
  obtain ⟨b, off, rfl, g1, g2, g3⟩ := h3 hp
  refine ⟨b, off, rfl, g1, g2, fun j u hu => ?_⟩
  rw [List.getElem?_map, Option.map_eq_some_iff] at hu
  obtain ⟨x, hx, rfl⟩ := hu
  rw [g3 j (List.getElem?_eq_some_iff.1 hx).1, List.getD_eq_getElem?_getD, hx]
  rfl
theorem rowI_form {w : World} {hi : Nat} {v : Value} {xs : List Int} (h : RowI w hi v xs) : ∃ a c, v = .slice a xs.length c ∧ xs.length ≤ c ∧ c ≤ maxLen := by
  obtain ⟨_, a, c, rfl, h1, h2, _⟩ := h
  exact ⟨a, c, rfl, h1, h2⟩
theorem ownI_empty (E : TypeId) (w : World) : OwnI E (w.alloc (.cells #[] E)) w.heap.size (w.heap.size + 1) (.slice (some ⟨w.heap.size, 0, none⟩) 0 0) [] := OwnC.empty E 1 w
theorem ownI_add {E : TypeId} {w : World} {lo hi : Nat} {v : Value} {xs : List Int} {y : Int} (h : OwnC E 1 w lo hi v (xs.length + 1) (xs.map (Value.int .i64) ++ [.int .i64 y])) : OwnI E w lo hi v (xs ++ [y]) := by
  show OwnC E 1 w lo hi v (xs ++ [y]).length ((xs ++ [y]).map (Value.int .i64))
  rw [List.length_append, List.map_append]
  exact h
end Go.Proofs.YtmgigjpkpeamjaaGreat
/- A whole array, by value, out of a block and into it (whatever its number of cells): the walk's steps. No condition. -/
namespace Go.Proofs.YtmgigjpkpeamjaaGreat
open Go.ChangeShapes Go.WideShapes Go.ChangeAt Go.RowKit
set_option linter.unusedVariables false

theorem wp_load_row {P : Program} {op : Oper} {a : Act} {w : World} {K : Act → World → Prop} {Q : Exit → Act → World → Prop} (ty : TypeId) (x : Operand) (ho : op.op = .load ty x)
    (g : Nat) (hx : a.eval x = .pointer (some ⟨g, 0, none⟩)) {cs : Array Value} {t : TypeId} {fr : Nat × Nat} (hg : w.heap[g]? = some (.cells cs t fr)) (d : TypeDesc)
    (hu : P.underlying ty = some d) (hd : d.isRow = true) (hi : (P.info? ty).map (·.size) = some cs.size) (h : K (a.put op.dst (.agg cs)) w) : op.wp P a w K Q := by
  have hl := run_loadVar_row (P := P) w g t ty cs fr d hg hu (by cases d <;> first | rfl | exact hd) hi
  unfold Oper.wp execOp
  simp only [ho, hx, Instr.loadAt, Instr.sureAddr, Sem.run_bind, Sem.run_pure, Result.andThen_ok, hl]
  exact h
theorem wp_store_row {P : Program} {op : Oper} {a : Act} {w : World} {K : Act → World → Prop} {Q : Exit → Act → World → Prop} (ty : TypeId) (x y : Operand) (ho : op.op = .store ty x y)
    (g : Nat) {cells old : Array Value} {t : TypeId} (hx : a.eval x = .pointer (some ⟨g, 0, none⟩)) (hy : a.eval y = .agg cells) (hg : w.heap[g]? = some (.cells old t))
    (hi : (P.info? ty).map (·.size) = some cells.size) (hs : old.size = cells.size) (h1 : cells.all (·.oneCell') = true)
    (h : K (a.put op.dst undef) (w.setRow g cells)) : op.wp P a w K Q := by
  have hl := run_storeVar_row (P := P) w g t ty old cells hg hi hs h1
  unfold Oper.wp execOp
  simp only [ho, hx, hy, Instr.storeAt, Instr.sureAddr, Sem.run_bind, Sem.run_pure, Result.andThen_ok, hl]
  exact h
theorem run_storeCells_row {P : Program} (w : World) (g : Nat) (t : TypeId) (old cells : Array Value) (hg : w.heap[g]? = some (.cells old t)) (ho : old.size = cells.size) (h1 : cells.all (·.oneCell') = true) :
    (storeCells ⟨g, 0, none⟩ cells.toList).run P w = .ok () (w.setRow g cells) := by
  have := run_storeCells_from (P := P) g t cells.toList 0 old w hg (by simp; omega) (fun v hv => (Array.all_eq_true_iff_forall_mem.1 h1) v (by simpa using hv))
  simpa using this
/-- 'a[k]' of an array of integers by value. -/
theorem run_index_row {P : Program} (t e : TypeId) (n k : Nat) (cs : Array Value) (K : IntKind) (v : Value) (w : World) (h : P.underlying t = some (.array n e)) (he : P.underlying e = some (.int K)) (hz : (P.info? e).map (·.size) = some 1)
    (hk : k < n) (hv : cs[k]? = some v) : (Instr.index t (.agg cs) (.int .i64 (k : Int))).run P w = .ok v w := by
  have hs : (sizeOf e).run P w = .ok 1 w := by
    cases hq : P.info? e with
    | none => simp [hq] at hz
    | some i =>
      have : i.size = 1 := by simpa [hq] using hz
      simp [sizeOf, typeInfo, hq, this]
  have ha : (isAgg e).run P w = .ok false w := by
    unfold isAgg
    rw [Sem.run_bind, run_underlying he w]
    rfl
  simp [Instr.index, run_underlying h, asIntOf, hk, hs, Go.part, ha, hv, Sem.run_bind]
/-- A load of a whole array, ahead of the walk, which would open it cell by cell. -/
theorem run_loadAt_row {P : Program} {w : World} {g : Nat} {t : TypeId} {c : Array Value} {fr : Nat × Nat} (hg : w.heap[g]? = some (.cells c t fr)) {ty : TypeId} {d : TypeDesc} (hu : P.underlying ty = some d) (hd : d.isRow = true) (hi : (P.info? ty).map (·.size) = some c.size) :
    (Instr.loadAt ty (.pointer (some ⟨g, 0, none⟩))).run P w = .ok (.agg c) w := by
  have hl := run_loadVar_row (P := P) w g t ty c fr d hg hu (by cases d <;> first | rfl | exact hd) hi
  simp only [Instr.loadAt, Instr.sureAddr, Sem.run_bind, Sem.run_pure, Result.andThen_ok, hl]
theorem blk_setRow {w : World} {g : Nat} {old : Array Value} {t : TypeId} (h : w.heap[g]? = some (.cells old t)) (cs : Array Value) : (w.setRow g cs).heap[g]? = some (.cells cs t) := setRow_heap w g old cs t (0, 0) h
theorem below_setRow {B g : Nat} {w0 w : World} (h : Below B w0 w) (hB : B ≤ g) (cs : Array Value) : Below B w0 (w.setRow g cs) :=
  h.trans ⟨rfl, rfl, rfl, by simp [World.setRow], fun k hk => by
    simp only [World.setRow]
    rw [Array.getElem?_modify, if_neg (by omega)]⟩
end Go.Proofs.YtmgigjpkpeamjaaGreat
