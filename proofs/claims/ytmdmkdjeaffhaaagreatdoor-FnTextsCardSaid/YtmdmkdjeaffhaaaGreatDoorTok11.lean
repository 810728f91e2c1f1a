/- Text of conditions (chapter 16): a whole text read, as landed: a panic and a recovery. Condition: the library's tables and errors lie in the world; at most 400 bytes. -/
import Derived.Test.YtmdmkdjeaffhaaaGreatDoorTok10
import Derived.Defers
import Derived.Recover
namespace Go.Proofs.YtmdmkdjeaffhaaaGreatDoor
open Go.Lib Go.ChangeShapes Go.WideShapes Go.ChangeAt Go.RowKit
set_option linter.unusedVariables false

set_option maxHeartbeats 2000000 in
theorem catch_pan (w : World) (B : Nat) (T : TypeId) (v z0 z1 z2 z3 : Value) (older : List PanicEntry) (hB : w.heap[B]? = some (.cells #[z0, z1, z2, z3] 27)) :
    CallsD Tryz.prog 31 #[.pointer (some ⟨B, 0, none⟩)] (.panicking ({ v := .iface T v, recovered := false } :: older)) w fun e u' w' =>
      e = .returned (.tuple #[]) ∧ u' = .panicking ({ v := .iface T v, recovered := true } :: older) ∧ w' = ((((w.setCell ⟨B, 0, none⟩ (.int .i64 0)).setCell ⟨B, 1, none⟩ (.int .i64 0)).setCell ⟨B, 2, none⟩ (.int .i64 0)).setCell ⟨B, 3, none⟩ (.slice none 0 0)) := by
  obtain ⟨⟨c0, c1, c2, c3⟩, f0, f1, f2, f3⟩ := cls_4 hB
  refine callsD_of_wpS Tryz.func31 rfl fun c₀ cs hu => ?_
  apply wpS_seq
  apply wpS_region
  simp [wpOpsS, go_sem, recoverD, hu, Tryz.ntmps31, Exit.thenS]
  refine wpS_cond (t := true) (by simp [Act.eval, Array.replicate]) ?_
  simp only [if_true]
  apply wpS_region
  simp [wpOpsS, go_sem, c0, c1, c2, c3, f0, f1, f2, f3, bodyPostS, results, Tryz.results31]
theorem catch_idle (w : World) (B : Nat) :
    CallsD Tryz.prog 31 #[.pointer (some ⟨B, 0, none⟩)] .returning w fun e u' w' => e = .returned (.tuple #[]) ∧ u' = .returning ∧ w' = w := by
  refine callsD_of_wpS Tryz.func31 rfl fun c₀ cs hu => ?_
  apply wpS_seq
  apply wpS_region
  simp [wpOpsS, go_sem, recoverD, hu, Tryz.ntmps31, Exit.thenS]
  refine wpS_cond (t := false) (by simp [Act.eval, Array.replicate]) ?_
  simp only [Bool.false_eq_true, if_false]
  refine wpS_of_wp (wp_skip ?_)
  cases c₀
  simp_all [bodyPostS, results, Tryz.results31]
/-- A condition of the call's own. -/
def OwnR (w : World) (x : CondD) (e : Ending) (w' : World) : Prop := ∃ us fp, e = .returned (.agg us.toArray) ∧ owE w' (CondD.c x) us fp ∧ fp.Nodup ∧ (∀ k ∈ fp, w.heap.size ≤ k ∧ k < w'.heap.size) ∧ Below w.heap.size w w'
set_option maxHeartbeats 4000000 in
set_option maxRecDepth 100000 in
theorem impl_readText (w : World) (B : ByteArray) (hB : B.size ≤ 400) (hK : Tabs w) :
    Calls Tryz.prog 17 #[.string B] w fun e w' => OwnR w (landR B.data.toList) e w' := by
  obtain ⟨X, hX⟩ : ∃ X, landR B.data.toList = X := ⟨_, rfl⟩
  rw [hX]
  unfold landR landO at hX
  have hmf : ∀ (fn : Fn) (first cap : Array Value) (w : World), (Instr.makeFunc fn first cap).run Tryz.prog w = .ok (.func fn first cap) w := fun _ _ _ _ => rfl
  obtain ⟨V, hV⟩ : ∃ V, V = (w.alloc (.cells #[.int .i64 0, .int .i64 0, .int .i64 0, .slice none 0 0] 27)).alloc (.cells #[.string B] 9) := ⟨_, rfl⟩
  have bV : Below w.heap.size w V := by rw [hV]; go_grown
  have zV : V.heap.size = w.heap.size + 2 := by rw [hV]; simp
  have c0 : V.heap[w.heap.size]? = some (.cells #[.int .i64 0, .int .i64 0, .int .i64 0, .slice none 0 0] 27) := by rw [hV]; exact blk_keep (C := w.heap.size + 1) (blk_new _ _ _) (by go_grown) (by omega)
  have hR : Rdr V (w.heap.size + 1) B.data.toList := ⟨B, rfl, hB, by rw [hV]; exact blk_new_at _ _ (by simp)⟩
  have hne : w.heap.size ≠ w.heap.size + 1 := by omega
  have HI := Lib.hid (reads_any w hK (B.data.toList.length + 1) V (w.heap.size + 1) B.data.toList (Nat.lt_succ_self _) bV (Nat.le_add_right _ _) hR)
  have HC0 := Lib.hid c0
  have HBV := Lib.hid bV
  have CR := Lib.hid (fun W => impl_readerOf W B)
  generalize B.data.toList = s at hX HI hR
  go_enter_defers Tryz.func17, Tryz.ntmps17
  clear bV c0 hR
  go_upto_region 3 with (go_at_call 32; refine (CR.out _).mono ?_; rintro e w' ⟨rfl, rfl⟩)
  rw [← hV]
  clear hV
  have ZERO := Lib.hid (show ∀ u : World, Touch [w.heap.size + 1] V u → X = zeroC → ∀ z0 z1 z2 z3, u.heap[w.heap.size]? = some (.cells #[z0, z1, z2, z3] 27) → ∃ WF, WF = ((((u.setCell ⟨w.heap.size, 0, none⟩ (.int .i64 0)).setCell ⟨w.heap.size, 1, none⟩ (.int .i64 0)).setCell ⟨w.heap.size, 2, none⟩ (.int .i64 0)).setCell ⟨w.heap.size, 3, none⟩ (.slice none 0 0)) ∧ (WF.cell? ⟨w.heap.size, 0, none⟩ = some (.int .i64 0) ∧ WF.cell? ⟨w.heap.size, 1, none⟩ = some (.int .i64 0) ∧ WF.cell? ⟨w.heap.size, 2, none⟩ = some (.int .i64 0) ∧ WF.cell? ⟨w.heap.size, 3, none⟩ = some (.slice none 0 0)) ∧ OwnR w X (.returned (.agg #[.int .i64 0, .int .i64 0, .int .i64 0, .slice none 0 0])) WF from fun u t hz z0 z1 z2 z3 hc => by
    have ST := stt_4 hc (.int .i64 0) (.int .i64 0) (.int .i64 0) (.slice none 0 0)
    refine ⟨_, rfl, (cls_4 ST.1).1, [.int .i64 0, .int .i64 0, .int .i64 0, .slice none 0 0], [], rfl, ?_, List.nodup_nil, (fun k hk => by cases hk), ?_⟩
    · rw [hz]
      exact leaf_own rfl rfl rfl
    · exact (HBV.out.trans (t.below (fun k hk => by rw [List.mem_singleton] at hk; omega) HBV.out.size)).trans (ST.2.below (fun k hk => by rw [List.mem_singleton] at hk; omega) (Nat.le_trans HBV.out.size t.size)))
  go_wp2_with fail
  refine HI.out.mono ?_
  rintro e u1 ⟨t1, ⟨y, r1, us, f1, hr1, rfl, ho1, nd1, rg1, hR1⟩ | ⟨hr1, T, v, rfl⟩⟩
  · rw [hr1, Option.bind_some] at hX
    dsimp only at hX
    obtain ⟨o1, a1, b1, e1⟩ := y
    obtain ⟨k1, g1, rfl, hg1, y0, y1, y2, y3⟩ := CondD.ow ho1
    obtain ⟨av, cv, hk1, -, -⟩ := y3.form
    generalize e1.length = m1 at hk1
    subst hk1
    clear hg1 y3
    have c1 := tch_blk HC0.out t1 hne
    obtain ⟨U, hU⟩ : ∃ U, U = ((((u1.setCell ⟨w.heap.size, 0, none⟩ (.int .i64 o1)).setCell ⟨w.heap.size, 1, none⟩ (.int .i64 a1)).setCell ⟨w.heap.size, 2, none⟩ (.int .i64 b1)).setCell ⟨w.heap.size, 3, none⟩ (.slice av m1 cv)) := ⟨_, rfl⟩
    have ST := stt_4 c1 (.int .i64 o1) (.int .i64 a1) (.int .i64 b1) (.slice av m1 cv)
    rw [← hU] at ST
    obtain ⟨⟨w0', w1', w2', w3'⟩, w4', w5', w6', w7'⟩ := cls_4 c1
    have hRU := hR1.off ST.2 hne.symm
    have HST := Lib.hid ST
    have HT1 := Lib.hid t1
    have HRG := Lib.hid rg1
    have HOU : Hid (owE U (CondD.c ⟨o1, a1, b1, e1⟩) [.int .i64 o1, .int .i64 a1, .int .i64 b1, .slice av m1 cv] f1) := Lib.hid (ho1.keep fun k hk => ST.2.block k (owE.lt ho1 k hk) (fun h2 => by have h3 := List.mem_singleton.1 h2; have := (HRG.out k hk).1; omega))
    have HS1 := Lib.hid (show V.heap.size ≤ u1.heap.size from t1.size)
    clear ST c1 t1 rg1 ho1 hR1 HI
    go_upto_region 4 with fail
    rw [← hU]
    clear hU w0' w1' w2' w3' w4' w5' w6' w7'
    by_cases ht : tokL r1 = []
    · rw [if_pos ht, Option.getD_some] at hX
      have HE := Lib.hid (expect_yes U (w.heap.size + 1) r1 ⟨#[]⟩ hRU ht)
      clear ht hRU
      go_wp2_with fail
      refine HE.out.mono ?_
      rintro e u6 ⟨rfl, hR6, t6⟩
      have c6 := tch_blk HST.out.1 t6 hne
      obtain ⟨⟨w0', w1', w2', w3'⟩, w4', w5', w6', w7'⟩ := cls_4 c6
      have ST6 := stt_4 c6 (.int .i64 o1) (.int .i64 a1) (.int .i64 b1) (.slice av m1 cv)
      have HST6 := Lib.hid ST6
      have HT6 := Lib.hid t6
      clear ST6 c6 t6 hR6 HE
      go_wp2_with fail
      refine leaves_cons (f := 31) (args := #[.pointer (some ⟨w.heap.size, 0, none⟩)]) (by simp) (by simp [go_sem]) ?_
      refine (catch_idle _ w.heap.size).mono ?_
      rintro e u' w'' ⟨rfl, rfl, rfl⟩
      have HT2 := HST6.out
      generalize hWF : ((((u6.setCell ⟨w.heap.size, 0, none⟩ (.int .i64 o1)).setCell ⟨w.heap.size, 1, none⟩ (.int .i64 a1)).setCell ⟨w.heap.size, 2, none⟩ (.int .i64 b1)).setCell ⟨w.heap.size, 3, none⟩ (.slice av m1 cv)) = WF at HT2 ⊢
      obtain ⟨⟨q0, q1, q2, q3⟩, -⟩ := cls_4 HT2.1
      have tW := HT2.2
      have hs6 : U.heap.size ≤ u6.heap.size := HT6.out.size
      have hsU : u1.heap.size ≤ U.heap.size := HST.out.2.size
      have hsV := HS1.out
      have hsW : u6.heap.size ≤ WF.heap.size := tW.size
      have hO6 := tch_own (lo := w.heap.size + 2) HOU.out HT6.out (by omega) (fun k hk => by have := HRG.out k hk; omega)
      have hO : OwnR w X (.returned (.agg #[.int .i64 o1, .int .i64 a1, .int .i64 b1, .slice av m1 cv])) WF := by
        refine ⟨[.int .i64 o1, .int .i64 a1, .int .i64 b1, .slice av m1 cv], f1, rfl, ?_, nd1, fun k hk => ?_, ?_⟩
        · rw [← hX]
          exact hO6.keep fun k hk => tW.block k (owE.lt hO6 k hk) (fun h2 => by have h3 := List.mem_singleton.1 h2; have := (HRG.out k hk).1; omega)
        · have := HRG.out k hk
          omega
        · have tA : Touch [w.heap.size + 1] V u1 := HT1.out
          have b1 := HBV.out.trans (tA.below (fun k hk => by rw [List.mem_singleton] at hk; omega) HBV.out.size)
          have b2 := b1.trans (HST.out.2.below (fun k hk => by rw [List.mem_singleton] at hk; omega) b1.size)
          have b3 := b2.trans (HT6.out.below (fun k hk => by rw [List.mem_singleton] at hk; omega) b2.size)
          exact b3.trans (tW.below (fun k hk => by rw [List.mem_singleton] at hk; omega) b3.size)
      simp [Leaves, settle, results, Tryz.results17, go_sem, q0, q1, q2, q3]
      exact hO
    · rw [if_neg ht, Option.getD_none] at hX
      have HE := Lib.hid (expect_no U (w.heap.size + 1) r1 ⟨#[]⟩ hRU ht)
      clear ht hRU
      go_wp2_with fail
      refine HE.out.mono ?_
      rintro e u6 ⟨⟨T, v, rfl⟩, t6⟩
      have c6 := tch_blk HST.out.1 t6 hne
      have hz : OwnR w X (.returned (.agg #[.int .i64 0, .int .i64 0, .int .i64 0, .slice none 0 0])) ((((u6.setCell ⟨w.heap.size, 0, none⟩ (.int .i64 0)).setCell ⟨w.heap.size, 1, none⟩ (.int .i64 0)).setCell ⟨w.heap.size, 2, none⟩ (.int .i64 0)).setCell ⟨w.heap.size, 3, none⟩ (.slice none 0 0)) := by
        have ST6 := stt_4 c6 (.int .i64 0) (.int .i64 0) (.int .i64 0) (.slice none 0 0)
        refine ⟨[.int .i64 0, .int .i64 0, .int .i64 0, .slice none 0 0], [], rfl, ?_, List.nodup_nil, (fun k hk => by cases hk), ?_⟩
        · rw [← hX]
          exact leaf_own rfl rfl rfl
        · have tA : Touch [w.heap.size + 1] V u1 := HT1.out
          have b1 := HBV.out.trans (tA.below (fun k hk => by rw [List.mem_singleton] at hk; omega) HBV.out.size)
          have b2 := b1.trans (HST.out.2.below (fun k hk => by rw [List.mem_singleton] at hk; omega) b1.size)
          have b3 := b2.trans (t6.below (fun k hk => by rw [List.mem_singleton] at hk; omega) b2.size)
          exact b3.trans (ST6.2.below (fun k hk => by rw [List.mem_singleton] at hk; omega) b3.size)
      obtain ⟨⟨q0, q1, q2, q3⟩, -⟩ := cls_4 (stt_4 c6 (.int .i64 0) (.int .i64 0) (.int .i64 0) (.slice none 0 0)).1
      go_wp2
      refine leaves_cons (f := 31) (args := #[.pointer (some ⟨w.heap.size, 0, none⟩)]) (by simp) (by simp [go_sem]) ?_
      refine (catch_pan u6 w.heap.size T v _ _ _ _ [] c6).mono ?_
      rintro e u' w'' ⟨rfl, rfl, rfl⟩
      generalize ((((u6.setCell ⟨w.heap.size, 0, none⟩ (.int .i64 0)).setCell ⟨w.heap.size, 1, none⟩ (.int .i64 0)).setCell ⟨w.heap.size, 2, none⟩ (.int .i64 0)).setCell ⟨w.heap.size, 3, none⟩ (.slice none 0 0)) = WF at hz q0 q1 q2 q3 ⊢
      simp [Leaves, settle, results, Tryz.results17, go_sem, q0, q1, q2, q3]
      exact hz
  · rw [hr1] at hX
    have c1 := tch_blk HC0.out t1 hne
    obtain ⟨WF, hWF, ⟨q0, q1, q2, q3⟩, hO⟩ := ZERO.out u1 t1 hX.symm _ _ _ _ c1
    go_wp2
    refine leaves_cons (f := 31) (args := #[.pointer (some ⟨w.heap.size, 0, none⟩)]) (by simp) (by simp [go_sem]) ?_
    refine (catch_pan u1 w.heap.size T v _ _ _ _ [] c1).mono ?_
    rintro e u' w'' ⟨rfl, rfl, rfl⟩
    rw [← hWF]
    clear hWF
    simp [Leaves, settle, results, Tryz.results17, go_sem, q0, q1, q2, q3]
    exact hO
end Go.Proofs.YtmdmkdjeaffhaaaGreatDoor
