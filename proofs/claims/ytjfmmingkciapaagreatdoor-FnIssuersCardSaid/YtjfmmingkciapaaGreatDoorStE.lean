/- Issuers (chapter 8): the laws' own comparison of two statements. No condition. -/
import Derived.Test.YtjfmmingkciapaaGreatDoorFactS
import Derived.Test.YtjfmmingkciapaaGreatDoorGround
import Derived.Deep.Cut
namespace Go.Proofs.YtjfmmingkciapaaGreatDoor
open Go.ChangeShapes Go.WideShapes Go.ChangeAt Go.RowKit
set_option linter.unusedVariables false

/-- A frame carried on behind a call. -/
theorem next {W0 U U' : World} (b : Below U.heap.size U U') (h : Below W0.heap.size W0 U) : Below W0.heap.size W0 U' := h.trans (b.mono h.size)
set_option maxHeartbeats 2000000 in
theorem eq_StatedR (p0 p1 p2 p3 p4 p5 p6 q0 q1 q2 q3 q4 q5 q6 : Int) (w : World) : Calls Tryz.prog 63 #[.agg #[.int .i64 p0, .int .i64 p1, .int .i64 p2, .int .i64 p3, .int .i64 p4, .int .i64 p5, .int .i64 p6], .agg #[.int .i64 q0, .int .i64 q1, .int .i64 q2, .int .i64 q3, .int .i64 q4, .int .i64 q5, .int .i64 q6]] w
    fun e w' => e = .returned (.bool (decide ((⟨p0, p1, p2, p3, p4, p5⟩ : FactD) = ⟨q0, q1, q2, q3, q4, q5⟩) && (p6 == q6))) ∧ Below w.heap.size w w' := by
  obtain ⟨W, hW⟩ : ∃ W, W = (w.alloc (.cells #[.int .i64 p0, .int .i64 p1, .int .i64 p2, .int .i64 p3, .int .i64 p4, .int .i64 p5, .int .i64 p6] 32)).alloc (.cells #[.int .i64 q0, .int .i64 q1, .int .i64 q2, .int .i64 q3, .int .i64 q4, .int .i64 q5, .int .i64 q6] 32) := ⟨_, rfl⟩
  have hB : Below w.heap.size w W := by rw [hW]; go_grown
  have hs : W.heap.size = w.heap.size + 1 + 1 := by rw [hW]; simp
  have h0 : W.heap[w.heap.size]? = some (.cells #[.int .i64 p0, .int .i64 p1, .int .i64 p2, .int .i64 p3, .int .i64 p4, .int .i64 p5, .int .i64 p6] 32) := by rw [hW]; exact blk_keep (C := w.heap.size + 1) (blk_new _ _ _) (by go_grown) (by omega)
  have h1 : W.heap[w.heap.size + 1]? = some (.cells #[.int .i64 q0, .int .i64 q1, .int .i64 q2, .int .i64 q3, .int .i64 q4, .int .i64 q5, .int .i64 q6] 32) := by rw [hW]; exact blk_new_at _ _ (by simp)
  obtain ⟨r, hr⟩ : ∃ r, decide ((⟨p0, p1, p2, p3, p4, p5⟩ : FactD) = ⟨q0, q1, q2, q3, q4, q5⟩) = r := ⟨_, rfl⟩
  have HE := Lib.hid (fun U => show Calls Tryz.prog 61 #[.agg #[.int .i64 p0, .int .i64 p1, .int .i64 p2, .int .i64 p3, .int .i64 p4, .int .i64 p5], .agg #[.int .i64 q0, .int .i64 q1, .int .i64 q2, .int .i64 q3, .int .i64 q4, .int .i64 q5]] U fun e w' => e = .returned (.bool r) ∧ Below U.heap.size U w' from hr ▸ eq_FactC p0 p1 p2 p3 p4 p5 q0 q1 q2 q3 q4 q5 U)
  rw [hr]
  clear hr
  have H0 := Lib.hid h0
  have H1 := Lib.hid h1
  have k0 := blk_cell h0 0 rfl
  have k1 := blk_cell h0 1 rfl
  have k2 := blk_cell h0 2 rfl
  have k3 := blk_cell h0 3 rfl
  have k4 := blk_cell h0 4 rfl
  have k5 := blk_cell h0 5 rfl
  have l0 := blk_cell h1 0 rfl
  have l1 := blk_cell h1 1 rfl
  have l2 := blk_cell h1 2 rfl
  have l3 := blk_cell h1 3 rfl
  have l4 := blk_cell h1 4 rfl
  have l5 := blk_cell h1 5 rfl
  clear h0 h1
  go_enter Tryz.func63, Tryz.ntmps63
  go_upto_region 1 with fail
  rw [← hW]
  clear hW
  go_wp2_with fail
  refine (HE.out _).mono ?_
  rintro e u ⟨rfl, b1⟩
  have d1 := hB.trans (b1.mono hB.size)
  clear k0 k1 k2 k3 k4 k5 l0 l1 l2 l3 l4 l5
  cases r
  · go_wp2
    go_ret
    exact ⟨rfl, d1⟩
  · have k6 := blk_cell (blk_keep H0.out b1 (by omega)) 6 rfl
    have l6 := blk_cell (blk_keep H1.out b1 (by omega)) 6 rfl
    cases hq : p6 == q6
    · have hq2 : (p6 != q6) = true := by simp [bne, hq]
      go_wp2
      go_ret
      exact ⟨ret_b (by simpa using hq), d1⟩
    · have hq2 : (p6 != q6) = false := by simp [bne, hq]
      go_wp2
      go_ret
      exact ⟨ret_b (by simpa using hq), d1⟩
end Go.Proofs.YtjfmmingkciapaaGreatDoor
