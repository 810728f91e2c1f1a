/- Revocations (chapter 11): contracts of the model: lists are merged. No condition but the bounds of what came in. -/
import Derived.Test.YtjfmmingkciapaaRev3
namespace Go.Proofs.Ytjfmmingkciapaa
open Go.ChangeShapes Go.WideShapes Go.ChangeAt Go.RowKit
set_option linter.unusedVariables false

theorem mergeR_at {ys : List RevokedD} {k : Nat} {x : RevokedD} (hx : ys[k]? = some x) (xs : List RevokedD) : mergeR xs (ys.take (k + 1)) = (addF (mergeR xs (ys.take k)) x.Serial x.At).1 := by
  unfold mergeR
  rw [List.take_add_one, hx, List.foldl_append]
  rfl
set_option maxHeartbeats 4000000 in
theorem spec_mergeRevoked (w : World) (hi hi' c c' : Nat) (a a' : Option Addr) (xs ys : List RevokedD) (h : RowRevoked w hi (.slice a xs.length c) xs) (h' : RowRevoked w hi' (.slice a' ys.length c') ys) (hh : hi ≤ w.heap.size) (hh' : hi' ≤ w.heap.size) (hn : xs.length ≤ 1048576) :
    Calls Try.prog 43 #[.slice a xs.length c, .slice a' ys.length c'] w fun e w' => ∃ u, e = .returned u ∧ OwnRevoked w' w.heap.size w'.heap.size u (mergeR xs ys) ∧ Below w.heap.size w w' := by
  obtain ⟨i0, hi0, hz0, hz1, hz2⟩ := info_parts infoRevoked
  obtain ⟨h1, h2⟩ := h'.fits
  obtain ⟨h3, h4⟩ := h.fits
  unfold maxLen at h2 h4
  have H' := Lib.hid h'
  have hE := OwnC.empty 99 2 w
  have hb0 : Below w.heap.size w (w.alloc (.cells #[] 99)) := (Below.refl _ _).alloc (Nat.le_refl _) _
  have hr := h.below hb0 hh
  clear h h'
  go_enter Try.func43, Try.ntmps43
  go_upto_region 2 with (at_builtin; refine wpList_append_OwnC rfl _ _ _ rfl i0 (.agg zerosRevoked.toArray) 16 Try.underlying37 hi0 hz0 hz1 hz2 rfl (by decide) rfl hE _ _ _ _ rfl hr (flat_one RevokedD.one xs) (by omega) (by decide) (by simp) ?_; intro v1 w1 o1 b1)
  have O1 : OwnRevoked w1 w.heap.size w1.heap.size v1 xs := by
    rw [Nat.zero_add, List.nil_append] at o1
    exact o1
  have HO := Lib.hid O1
  have hb1 := hb0.trans b1
  clear o1 O1 hr hE
  go_wp2
  go_loopw [5, 6] (fun v i wr => ∃ k : Nat, k ≤ ys.length ∧ i = .int .i64 (k : Int) ∧ OwnRevoked wr w.heap.size wr.heap.size v (mergeR xs (ys.take k)) ∧ Below w.heap.size w wr) (fun _ i _ => ys.length - (intOf i).toNat)
  case atStart => exact ⟨0, Nat.zero_le _, rfl, by rw [List.take_zero]; exact HO.out, hb1⟩
  case round =>
    obtain ⟨k, hk, rfl, hown, hb⟩ := hrel
    by_cases hlt : k < ys.length
    · obtain ⟨x, hx⟩ : ∃ x, ys[k]? = some x := ⟨_, List.getElem?_eq_getElem hlt⟩
      have HS := Lib.hid (mergeR_at hx xs)
      have hm := mergeR_take xs (ys.take k) 1048576 hn (by decide)
      generalize mergeR xs (ys.take k) = M at hown HS hm
      obtain ⟨p0, p1⟩ := x
      dsimp only at HS
      obtain ⟨V, hV⟩ : ∃ V, addF M p0 p1 = V := ⟨_, rfl⟩
      obtain ⟨_, A, cp, rfl, _⟩ := id hown.read
      have HR := Lib.hid hown.read
      have HP := Lib.hid (fun (W : World) (hW : Below wr.heap.size wr W) => hV ▸ spec_addRevoked W wr.heap.size cp A M p0 p1 (HR.out.below hW (Nat.le_refl _)) hW.size hm)
      rw [hV] at HS
      clear hown hV
      obtain ⟨b, off, rfl, r1, r2, HC⟩ := H'.out.at hx
      have HCY := Lib.hid HC
      clear HC hx
      have hbD := Below.drew (Below.refl wr.heap.size wr)
      have HC := Lib.hid (fun (u : World) (hu : Below wr.heap.size wr u) => (⟨HCY.out _ _ r2 (hb.trans (hu.mono hb.size)), hu⟩ : (u.cell? ⟨b, off + k * 2, none⟩ = some (.int .i64 p0) ∧ u.cell? ⟨b, off + k * 2 + 1, none⟩ = some (.int .i64 p1)) ∧ Below wr.heap.size wr u))
      have hsw := hb.size
      go_wp2_with fail
      go_region_held3 (fun u => (u.cell? ⟨b, off + k * 2, none⟩ = some (.int .i64 p0) ∧ u.cell? ⟨b, off + k * 2 + 1, none⟩ = some (.int .i64 p1)) ∧ Below wr.heap.size wr u)
        (first | exact HC.out _ hbD | exact HC.out _ (hbD.trans (Below.mono (by assumption) hbD.size)))
        (first | (go_at_call 38; (with_reducible refine (HP.out _ hbD).mono ?_); rintro e u2 ⟨v', rfl, o2, b2⟩))
      have d2 := hb.trans ((hbD.trans (b2.mono hbD.size)).mono hb.size)
      have HO2 := Lib.hid (o2.wide (lo' := w.heap.size) (hi' := u2.heap.size) hb.size (Nat.le_refl _))
      clear o2 b2 HP HC HCY
      go_wp2
      refine ⟨⟨k + 1, by omega, by go_num, ?_, d2⟩, by simp only [intOf]; omega⟩
      have h7 := HS.out
      rw [h7]
      exact HO2.out
    · go_wp2
      go_ret
      obtain rfl : k = ys.length := by omega
      rw [List.take_of_length_le (Nat.le_refl _)] at hown
      exact ⟨_, rfl, hown, hb⟩
end Go.Proofs.Ytjfmmingkciapaa
