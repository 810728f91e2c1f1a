/- Measurements (chapter 12): the landed CheckQuote. Condition: NoKey; else none but the bounds of what came in. -/
import Derived.Test.YtjfmmingkciapabDoorMeasJ
import Derived.Test.YtjfmmingkciapabDoorMeas2
import Derived.Test.YtjfmmingkciapabDoorSeal
import Derived.Test.YtjfmmingkciapabDoorMeasI
import Derived.Test.YtjfmmingkciapabDoorCryD
import Derived.Test.YtjfmmingkciapabDoorNamesI
import Derived.Test.YtjfmmingkciapabDoorTimesI
namespace Go.Proofs.YtjfmmingkciapabDoor
open Go.ChangeShapes Go.WideShapes Go.ChangeAt Go.RowKit
set_option linter.unusedVariables false

set_option maxHeartbeats 4000000 in
set_option maxRecDepth 100000 in
theorem impl_checkQuote (key nonce now age : Int) (q : QuoteD) (w : World) (hi c : Nat) (a : Option Addr) (log : List Int) (h : Row .i64 w hi (.slice a log.length c) log) (hh : hi ≤ w.heap.size) (hkw : (Lit.int .i64 key).wf = true) (hqw : q.wf) (hnw : (Lit.int .i64 nonce).wf = true) (hn : log.length ≤ 1099511627776) (hK : NoKey w) :
    Calls Tryd.prog 20 #[.int .i64 key, q.val, .slice a log.length c, .int .i64 nonce, .int .i64 now, .int .i64 age] w fun e w' => e = .returned (.bool (checkQ key q log nonce now age)) ∧ Below w.heap.size w w' := by
  obtain ⟨q0, q1, q2, q3, q4⟩ := q
  rw [QuoteD.val_mk]
  obtain ⟨W0, hW0⟩ : ∃ W0, W0 = w.alloc (.cells #[.int .i64 q0, .int .i64 q1, .int .i64 q2, .int .i64 q3, .int .i64 q4] 34) := ⟨_, rfl⟩
  have hb0 : Below w.heap.size w W0 := by rw [hW0]; exact (Below.refl _ _).alloc (Nat.le_refl _) _
  have hk0 : W0.heap[w.heap.size]? = some (.cells #[.int .i64 q0, .int .i64 q1, .int .i64 q2, .int .i64 q3, .int .i64 q4] 34) := by rw [hW0]; exact blk_new _ _ _
  have hcm := impl_makeQuote key q0 nonce q3 W0 hi c a log (h.below hb0 hh) (Nat.le_trans hh hb0.size) hn hkw hqw.1 hnw hqw.2.2.2.1 (hK.kept hb0)
  have CF := Lib.hid (fun W => impl_fresh q3 now age W)
  have hx : makeQ key q0 log nonce q3 = if okQuote key q0 log q3 then ⟨q0, regOf log, nonce, q3, keyed key [q0, regOf log, nonce, q3]⟩ else ⟨0, 0, 0, 0, 0⟩ := rfl
  rw [hx] at hcm
  unfold checkQ
  dsimp only
  generalize keyed key [q0, regOf log, nonce, q3] = mk at hcm ⊢
  generalize regOf log = r at hcm ⊢
  generalize freshOf q3 now age = fv at CF ⊢
  generalize okQuote key q0 log q3 = ok at hcm ⊢
  clear hx hkw hqw hnw h hn hK
  obtain ⟨⟨p0, p1, p2, p3, p4⟩, -⟩ := cls_5 hk0
  have HK := Lib.hid hk0
  cases ok
  · simp only [Bool.false_eq_true, if_false, QuoteD.val_mk] at hcm
    have CM := Lib.hid hcm
    clear hcm hk0
    go_enter Tryd.func20, Tryd.ntmps20
    go_upto_region 1 with fail
    rw [← hW0]
    clear hW0
    go_wp2_with (go_at_call 33; refine CM.out.mono ?_; rintro e u ⟨rfl, b1⟩)
    go_ret
    exact ⟨rfl, hb0.trans ((b1.alloc b1.size _).mono hb0.size)⟩
  · simp only [if_true, QuoteD.val_mk] at hcm
    have CM := Lib.hid hcm
    clear hcm hk0
    have hd : (r == q1) = false ∨ r = q1 ∧ ((nonce == q2) = false ∨ nonce = q2 ∧ ((mk == q4) = false ∨ mk = q4)) := by
      simp only [beq_eq_false_iff_ne, ne_eq]
      omega
    rcases hd with h1 | ⟨rfl, h1 | ⟨rfl, h1 | rfl⟩⟩
    · obtain ⟨R, hR⟩ : ∃ R, false = R := ⟨_, rfl⟩
      have HR := Lib.hid hR
      have hV : (true && (((r == q1) && ((nonce == q2) && (mk == q4))) && fv)) = R := by rw [← hR]; rw [h1]; rfl
      rw [hV]
      clear hV
      subst hR
      have e0 : (q0 == q0) = true := beq_self_eq_true _
      have e3 : (q3 == q3) = true := beq_self_eq_true _
      have e5 : (r == r) = true := beq_self_eq_true _
      have e6 : (nonce == nonce) = true := beq_self_eq_true _
      have e7 : (mk == mk) = true := beq_self_eq_true _
      go_enter Tryd.func20, Tryd.ntmps20
      go_upto_region 1 with fail
      rw [← hW0]
      clear hW0
      go_upto_region 2 with (go_at_call 33; refine CM.out.mono ?_; rintro e u ⟨rfl, b1⟩; clear p0 p1 p2 p3 p4; obtain ⟨⟨p0, p1, p2, p3, p4⟩, -⟩ := cls_5 (blk_keep HK.out b1 (blk_lt HK.out)))
      have hlt := Nat.lt_of_lt_of_le (blk_lt HK.out) b1.size
      have hne : w.heap.size ≠ u.heap.size := Nat.ne_of_lt hlt
      have b2 : Below u.heap.size u (u.alloc (.cells #[.int .i64 q0, .int .i64 r, .int .i64 nonce, .int .i64 q3, .int .i64 mk] 34)) := (Below.refl _ _).alloc (Nat.le_refl _) _
      go_wp2
      go_ret
      exact ⟨ret_b (by first | rfl | (simp; done) | simp [h1]), hb0.trans ((b1.trans (b2.mono b1.size)).mono hb0.size)⟩
    · obtain ⟨R, hR⟩ : ∃ R, false = R := ⟨_, rfl⟩
      have HR := Lib.hid hR
      have hV : (true && (((r == r) && ((nonce == q2) && (mk == q4))) && fv)) = R := by rw [← hR]; rw [h1, Bool.false_and, Bool.and_false]; rfl
      rw [hV]
      clear hV
      subst hR
      have e0 : (q0 == q0) = true := beq_self_eq_true _
      have e3 : (q3 == q3) = true := beq_self_eq_true _
      have e5 : (r == r) = true := beq_self_eq_true _
      have e6 : (nonce == nonce) = true := beq_self_eq_true _
      have e7 : (mk == mk) = true := beq_self_eq_true _
      go_enter Tryd.func20, Tryd.ntmps20
      go_upto_region 1 with fail
      rw [← hW0]
      clear hW0
      go_upto_region 2 with (go_at_call 33; refine CM.out.mono ?_; rintro e u ⟨rfl, b1⟩; clear p0 p1 p2 p3 p4; obtain ⟨⟨p0, p1, p2, p3, p4⟩, -⟩ := cls_5 (blk_keep HK.out b1 (blk_lt HK.out)))
      have hlt := Nat.lt_of_lt_of_le (blk_lt HK.out) b1.size
      have hne : w.heap.size ≠ u.heap.size := Nat.ne_of_lt hlt
      have b2 : Below u.heap.size u (u.alloc (.cells #[.int .i64 q0, .int .i64 r, .int .i64 nonce, .int .i64 q3, .int .i64 mk] 34)) := (Below.refl _ _).alloc (Nat.le_refl _) _
      go_wp2
      go_ret
      exact ⟨ret_b (by first | rfl | (simp; done) | simp [h1]), hb0.trans ((b1.trans (b2.mono b1.size)).mono hb0.size)⟩
    · obtain ⟨R, hR⟩ : ∃ R, false = R := ⟨_, rfl⟩
      have HR := Lib.hid hR
      have hV : (true && (((r == r) && ((nonce == nonce) && (mk == q4))) && fv)) = R := by rw [← hR]; rw [h1, Bool.and_false, Bool.and_false]; rfl
      rw [hV]
      clear hV
      subst hR
      have e0 : (q0 == q0) = true := beq_self_eq_true _
      have e3 : (q3 == q3) = true := beq_self_eq_true _
      have e5 : (r == r) = true := beq_self_eq_true _
      have e6 : (nonce == nonce) = true := beq_self_eq_true _
      have e7 : (mk == mk) = true := beq_self_eq_true _
      go_enter Tryd.func20, Tryd.ntmps20
      go_upto_region 1 with fail
      rw [← hW0]
      clear hW0
      go_upto_region 2 with (go_at_call 33; refine CM.out.mono ?_; rintro e u ⟨rfl, b1⟩; clear p0 p1 p2 p3 p4; obtain ⟨⟨p0, p1, p2, p3, p4⟩, -⟩ := cls_5 (blk_keep HK.out b1 (blk_lt HK.out)))
      have hlt := Nat.lt_of_lt_of_le (blk_lt HK.out) b1.size
      have hne : w.heap.size ≠ u.heap.size := Nat.ne_of_lt hlt
      have b2 : Below u.heap.size u (u.alloc (.cells #[.int .i64 q0, .int .i64 r, .int .i64 nonce, .int .i64 q3, .int .i64 mk] 34)) := (Below.refl _ _).alloc (Nat.le_refl _) _
      go_wp2
      go_ret
      exact ⟨ret_b (by first | rfl | (simp; done) | simp [h1]), hb0.trans ((b1.trans (b2.mono b1.size)).mono hb0.size)⟩
    · obtain ⟨R, hR⟩ : ∃ R, fv = R := ⟨_, rfl⟩
      have HR := Lib.hid hR
      have hV : (true && (((r == r) && ((nonce == nonce) && (mk == mk))) && fv)) = R := by rw [← hR]; rw [beq_self_eq_true, beq_self_eq_true, beq_self_eq_true]; cases fv <;> rfl
      rw [hV]
      clear hV
      subst hR
      have e0 : (q0 == q0) = true := beq_self_eq_true _
      have e3 : (q3 == q3) = true := beq_self_eq_true _
      have e5 : (r == r) = true := beq_self_eq_true _
      have e6 : (nonce == nonce) = true := beq_self_eq_true _
      have e7 : (mk == mk) = true := beq_self_eq_true _
      go_enter Tryd.func20, Tryd.ntmps20
      go_upto_region 1 with fail
      rw [← hW0]
      clear hW0
      go_upto_region 2 with (go_at_call 33; refine CM.out.mono ?_; rintro e u ⟨rfl, b1⟩; clear p0 p1 p2 p3 p4; obtain ⟨⟨p0, p1, p2, p3, p4⟩, -⟩ := cls_5 (blk_keep HK.out b1 (blk_lt HK.out)))
      have hlt := Nat.lt_of_lt_of_le (blk_lt HK.out) b1.size
      have hne : w.heap.size ≠ u.heap.size := Nat.ne_of_lt hlt
      have b2 : Below u.heap.size u (u.alloc (.cells #[.int .i64 q0, .int .i64 r, .int .i64 nonce, .int .i64 q3, .int .i64 mk] 34)) := (Below.refl _ _).alloc (Nat.le_refl _) _
      go_wp2_with (go_at_call 34; refine (CF.out _).mono ?_; rintro e u2 ⟨rfl, b3⟩)
      go_ret
      exact ⟨ret_b (by first | rfl | (simp; done) | simp [h1]), hb0.trans (((b1.trans (b2.mono b1.size)).trans (b3.mono (b1.trans (b2.mono b1.size)).size)).mono hb0.size)⟩
end Go.Proofs.YtjfmmingkciapabDoor
