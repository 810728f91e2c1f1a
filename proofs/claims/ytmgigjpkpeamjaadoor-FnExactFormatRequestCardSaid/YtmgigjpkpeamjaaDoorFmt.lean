/- What FormatInt of the model returns, at every integer. No condition but the integer's range. -/
import Derived.Test.YtmgigjpkpeamjaaDoorInts
import Derived.Test.YtmgigjpkpeamjaaDoorNum
import Derived.Test.YtmgigjpkpeamjaaDoorStr
import Derived.WalkKit
import Derived.ProofKit
import Derived.OpenShut
import Derived.WalkLawsBesides
import Derived.WalkSpells
import Derived.LoopTactic
import Derived.Lib.Hide
import Derived.Below
import Derived.Laws.BytesArg
namespace Go.Proofs.YtmgigjpkpeamjaaDoor
open Go.ChangeShapes Go.WideShapes Go.ChangeAt Go.RowKit
set_option linter.unusedVariables false

set_option maxHeartbeats 1000000 in
set_option maxRecDepth 100000 in
theorem spec_format (n : Int) (w : World) (h0 : -9223372036854775808 ≤ n) (h1 : n ≤ 9223372036854775807) :
    Calls Tryd.prog 9 #[.int .i64 n] w fun e w' => e = .returned (.string ⟨(Lib.itoa n).toArray⟩) ∧ Below w.heap.size w w' := by
  by_cases hz : n = 0
  · subst hz
    go_enter Tryd.func9, Tryd.ntmps9
    go_wp2
    go_ret
    exact ⟨ret_str (by decide +kernel), Below.refl _ _⟩
  · have hz' : (n == 0) = false := by simpa using hz
    go_enter Tryd.func9, Tryd.ntmps9
    go_wp2
    rcases Int.lt_or_gt_of_ne hz with hn | hn
    · go_loopw [3, 4] (fun s x wr => ∃ (u : Nat) (l : List UInt8), x = .int .i64 (-(u : Int)) ∧ s = .string ⟨l.toArray⟩ ∧ n ≤ -(u : Int) ∧ Hid (leftDigits n.natAbs = leftDigits u ++ l) ∧ Below w.heap.size w wr) (fun _ x _ => (intOf x).natAbs)
      case atStart => exact ⟨n.natAbs, [], by rw [show -((n.natAbs : Nat) : Int) = n by omega], rfl, by omega, by unfold Hid; simp, Below.refl _ _⟩
      case round =>
        obtain ⟨u, l, rfl, rfl, hle, HD, hb⟩ := hrel
        have hl : l.length ≤ 20 := by
          have h2 := congrArg List.length HD.out
          have h3 := leftDigits_le n.natAbs (by omega)
          simp only [List.length_append] at h2
          omega
        by_cases hu : u = 0
        · subst hu
          go_wp2
          go_ret
          refine ⟨ret_str ?_, hb⟩
          have e0 : leftDigits n.natAbs = l := by rw [HD.out]; rfl
          rw [itoa_minus n hn, e0]
          apply ByteArray.ext
          simp
        · have e1 : (-(u : Int)).tmod 10 = -((u % 10 : Nat) : Int) := by rw [Int.neg_tmod]; rfl
          have e2 : (-(u : Int)).tdiv 10 = -((u / 10 : Nat) : Int) := by rw [Int.neg_tdiv]; rfl
          have hm : u % 10 ≤ 9 := by omega
          have HS := Lib.hid (leftDigits_step u hu l)
          have e3 : (48 + (u : Int) % 10).toNat = 48 + u % 10 := by omega
          have E3 := Lib.hid e3
          clear e3
          by_cases hd : u % 10 = 0
          · have cv := conv_one wr 48
            have hs : (strOfNums [48]).size = 1 := rfl
            go_wp2
            refine ⟨⟨u / 10, UInt8.ofNat (48 + u % 10) :: l, by go_num, ?_, by omega, ?_, hb.alloc hb.size _⟩, by simp only [intOf]; omega⟩
            · rw [str_cons _ (UInt8.ofNat (48 + u % 10)) l (by rw [hd]; rfl)]
            · unfold Hid
              rw [HD.out, HS.out]
          · have cv := conv_one wr (48 + (u : Int) % 10)
            have hs : (strOfNums [48 + (u : Int) % 10]).size = 1 := rfl
            go_wp2
            refine ⟨⟨u / 10, UInt8.ofNat (48 + u % 10) :: l, by go_num, ?_, by omega, ?_, hb.alloc hb.size _⟩, by simp only [intOf]; omega⟩
            · rw [str_cons _ (UInt8.ofNat (48 + u % 10)) l (by rw [E3.out])]
            · unfold Hid
              rw [HD.out, HS.out]
    · go_loopw [3, 4] (fun s x wr => ∃ (u : Nat) (l : List UInt8), x = .int .i64 (u : Int) ∧ s = .string ⟨l.toArray⟩ ∧ (u : Int) ≤ n ∧ Hid (leftDigits n.natAbs = leftDigits u ++ l) ∧ Below w.heap.size w wr) (fun _ x _ => (intOf x).toNat)
      case atStart => exact ⟨n.natAbs, [], by rw [show ((n.natAbs : Nat) : Int) = n by omega], rfl, by omega, by unfold Hid; simp, Below.refl _ _⟩
      case round =>
        obtain ⟨u, l, rfl, rfl, hle, HD, hb⟩ := hrel
        by_cases hu : u = 0
        · subst hu
          go_wp2
          go_ret
          refine ⟨ret_str ?_, hb⟩
          have e0 : leftDigits n.natAbs = l := by rw [HD.out]; rfl
          rw [itoa_plus n hn, e0]
        · have cv := conv_one wr (48 + (u : Int) % 10)
          have hl : l.length ≤ 20 := by
            have h2 := congrArg List.length HD.out
            have h3 := leftDigits_le n.natAbs (by omega)
            simp only [List.length_append] at h2
            omega
          have hs : (strOfNums [48 + (u : Int) % 10]).size = 1 := rfl
          go_wp2
          refine ⟨⟨u / 10, UInt8.ofNat (48 + u % 10) :: l, by go_num, ?_, by omega, ?_, hb.alloc hb.size _⟩, by simp only [intOf]; omega⟩
          · rw [str_cons _ (UInt8.ofNat (48 + u % 10)) l (by congr 1)]
          · unfold Hid
            rw [HD.out, leftDigits_step u hu]
end Go.Proofs.YtmgigjpkpeamjaaDoor
