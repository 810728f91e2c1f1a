/- Stores of facts (chapter 7): contracts of the model: stores are merged. -/
import Derived.Test.YtjfmmingkciapaaStores4
namespace Go.Proofs.Ytjfmmingkciapaa
open Go.ChangeShapes Go.WideShapes Go.ChangeAt Go.RowKit
set_option linter.unusedVariables false

def mergeS (xs ys : List FactD) : List FactD := ys.foldl (fun o f => (putF o f).1) xs
theorem putF_length (xs : List FactD) (f : FactD) (n : Nat) (h : xs.length ≤ n) (hn : 30 ≤ n) : (putF xs f).1.length ≤ n := by
  unfold putF
  split
  · split
    · show (putGo f false xs).length ≤ n
      omega
    · exact h
  · exact h
theorem mergeS_take (xs ys : List FactD) (n : Nat) (h : xs.length ≤ n) (hn : 30 ≤ n) : (mergeS xs ys).length ≤ n := by
  induction ys generalizing xs with
  | nil => exact h
  | cons y ys ih => exact ih _ (putF_length xs y n h hn)
set_option maxHeartbeats 2000000 in
theorem spec_mergeStores (w : World) (hi hi' c c' : Nat) (a a' : Option Addr) (xs ys : List FactD) (h : RowFact w hi (.slice a xs.length c) xs) (h' : RowFact w hi' (.slice a' ys.length c') ys) (hh : hi ≤ w.heap.size) (hh' : hi' ≤ w.heap.size) (hn : xs.length ≤ 1048576) :
    Calls Try.prog 36 #[.slice a xs.length c, .slice a' ys.length c'] w fun e w' => ∃ u, e = .returned u ∧ OwnFact w' w.heap.size w'.heap.size u (mergeS xs ys) ∧ Below w.heap.size w w' := by
  obtain ⟨h1, h2⟩ := h'.fits
  unfold maxLen at h2
  have H' := Lib.hid h'
  have HCP := Lib.hid (spec_l7Copy w hi c a xs h hh hn)
  clear h h'
  go_enter Try.func36, Try.ntmps36
  go_wp2_with fail
  refine HCP.out.mono ?_
  rintro e u1 ⟨v, rfl, ho, b1⟩
  have HO := Lib.hid ho
  clear ho
  go_wp2
  go_loopw [5, 6] (fun v i wr => ∃ k : Nat, k ≤ ys.length ∧ i = .int .i64 (k : Int) ∧ OwnFact wr w.heap.size wr.heap.size v (mergeS xs (ys.take k)) ∧ Below w.heap.size w wr) (fun _ i _ => ys.length - (intOf i).toNat)
  case atStart => exact ⟨0, Nat.zero_le _, rfl, by rw [List.take_zero]; exact HO.out, b1⟩
  case round =>
    obtain ⟨k, hk, rfl, hown, hb⟩ := hrel
    by_cases hlt : k < ys.length
    · obtain ⟨x, hx⟩ : ∃ x, ys[k]? = some x := ⟨_, List.getElem?_eq_getElem hlt⟩
      have HS := Lib.hid (show mergeS xs (ys.take (k + 1)) = (putF (mergeS xs (ys.take k)) x).1 by
        unfold mergeS
        rw [List.take_add_one, hx, List.foldl_append]
        rfl)
      have hm := mergeS_take xs (ys.take k) 1048576 hn (by decide)
      generalize mergeS xs (ys.take k) = M at hown HS hm
      have hr := hown.read
      obtain ⟨_, A, cp, rfl, _⟩ := id hr
      have HP := Lib.hid (spec_putFact wr wr.heap.size cp A M x hr (Nat.le_refl _) hm)
      clear hr hown
      obtain ⟨p0, p1, p2, p3, p4, p5⟩ := x
      rw [FactD.val_mk] at HP
      obtain ⟨b, off, rfl, r1, r2, HC⟩ := H'.out.at hx
      obtain ⟨c0, c1, c2, c3, c4, c5⟩ := HC _ _ r2 hb
      clear HC hx
      go_wp2_with fail
      refine HP.out.mono ?_
      rintro e u2 ⟨v', rfl, ho, b2⟩
      have HO2 := Lib.hid ho
      clear ho
      go_wp2
      refine ⟨⟨k + 1, by omega, by go_num, ?_, hb.trans (b2.mono hb.size)⟩, by simp only [intOf]; omega⟩
      have h7 := HS.out
      rw [h7]
      exact HO2.out.wide hb.size (Nat.le_refl _)
    · go_wp2
      go_ret
      obtain rfl : k = ys.length := by omega
      rw [List.take_of_length_le (Nat.le_refl _)] at hown
      exact ⟨_, rfl, hown, hb⟩
end Go.Proofs.Ytjfmmingkciapaa
