/- Revocations (chapter 11): contracts of the landed functions: AddRevoked, MergeRevoked. Condition: the numbers that are told are integers of their type. -/
import Derived.Test.YtjfmmingkciapaaRevN
namespace Go.Proofs.Ytjfmmingkciapaa
open Go.ChangeShapes Go.WideShapes Go.ChangeAt Go.RowKit Go.Maps
set_option linter.unusedVariables false

theorem revB_wf {xs : List RevokedD} (h : revB xs = true) : ∀ x ∈ xs, x.wf := fun x hx => by
  unfold revB at h
  rw [Bool.and_eq_true] at h
  obtain ⟨h1, h2, h3⟩ := revGo_wf h.1 (Int.le_refl _) x hx
  unfold isT at h3
  exact ⟨wf_i64 (by omega) (by omega), wf_i64 (by omega) (by omega)⟩
theorem revB_asc {xs : List RevokedD} (h : revB xs = true) : xs.Pairwise fun x y => x.Serial < y.Serial := by
  unfold revB at h
  rw [Bool.and_eq_true] at h
  exact (revGo_asc h.1).2
set_option maxHeartbeats 4000000 in
theorem impl_addRevoked (w : World) (hi c : Nat) (a : Option Addr) (xs : List RevokedD) (s t : Int) (h : RowRevoked w hi (.slice a xs.length c) xs) (hh : hi ≤ w.heap.size) (hn : xs.length ≤ 1048576) (hs : (Lit.int .i64 s).wf = true) :
    Calls Try.prog 22 #[.slice a xs.length c, .int .i64 s, .int .i64 t] w fun e w' => ∃ u, e = .returned (.tuple #[u, .bool (addF xs s t).2]) ∧ OwnRevoked w' w.heap.size w'.heap.size u (addF xs s t).1 ∧ Below w.heap.size w w' := by
  have CY := Lib.hid (fun (W : World) (hW : Below w.heap.size w W) => impl_copyRevoked W hi c a xs (h.below hW hh) (Nat.le_trans hh hW.size) hn)
  obtain ⟨av, hav⟩ : ∃ av, revB xs = av := ⟨_, rfl⟩
  obtain ⟨tv, htv⟩ : ∃ tv, decide (isT t) = tv := ⟨_, rfl⟩
  have CW := Lib.hid (fun (hA : revB xs = true) (W : World) (b : Nat) (hd : HasDir W b xs) (hW : Below w.heap.size w W) => impl_with W b hi c a xs s t hd (h.below hW hh) (Nat.le_trans hh hW.size) hn (revB_asc hA) hs)
  have CR := Lib.hid (fun (hA : revB xs = true) (W : World) (hW : Below w.heap.size w W) => impl_revocationsOf W hi c a xs (h.below hW hh) (Nat.le_trans hh hW.size) (revB_wf hA))
  have HG := Lib.hid (addGo_length s t false xs).1
  obtain ⟨G, hG⟩ : ∃ G, addGo s t false xs = G := ⟨_, rfl⟩
  obtain ⟨bv, hbv⟩ : ∃ bv, revB G = bv := ⟨_, rfl⟩
  have HV := Lib.hid (show addF xs s t = if av && bv && tv then (G, true) else (xs, false) by unfold addF; rw [hG, hav, hbv, htv])
  rw [hG] at CW
  generalize addF xs s t = V at HV ⊢
  have CA := Lib.hid (fun (W : World) (hW : Below w.heap.size w W) => show Calls Try.prog 23 #[.slice a xs.length c] W fun e w' => e = .returned (.bool av) ∧ Below W.heap.size W w' from hav ▸ impl_areRevoked W hi c a xs (h.below hW hh))
  have CB := Lib.hid (fun (W : World) (hi' c' : Nat) (a' : Option Addr) (h' : RowRevoked W hi' (.slice a' G.length c') G) => show Calls Try.prog 23 #[.slice a' G.length c'] W fun e w' => e = .returned (.bool bv) ∧ Below W.heap.size W w' from hbv ▸ impl_areRevoked W hi' c' a' G h')
  have CT := Lib.hid (fun W => isTime_is t W tv htv)
  have HAV := Lib.hid hav
  clear hG hbv htv hav h hs
  go_enter Try.func22, Try.ntmps22
  go_wp2_with fail
  refine (CA.out w (Below.refl _ _)).mono ?_
  rintro e u1 ⟨rfl, b1⟩
  cases av
  · go_wp2_with (go_at_call 77; refine (CY.out _ b1).mono ?_; rintro e u9 ⟨v, rfl, o9, b9⟩)
    go_ret2
    have e := HV.out
    subst e
    exact ⟨v, rfl, o9.wide b1.size (Nat.le_refl _), b1.trans (b9.mono b1.size)⟩
  · have HAV' := HAV.out
    have CW := Lib.hid (CW.out HAV')
    have CR := Lib.hid (CR.out HAV')
    clear HAV'
    go_wp2_with fail
    refine (CT.out _).mono ?_
    rintro e u2 ⟨rfl, b2⟩
    have d2 := b1.trans (b2.mono b1.size)
    cases tv
    · go_wp2_with (go_at_call 77; refine (CY.out _ d2).mono ?_; rintro e u9 ⟨v, rfl, o9, b9⟩)
      go_ret2
      have e := HV.out
      rw [Bool.and_false] at e
      subst e
      exact ⟨v, rfl, o9.wide d2.size (Nat.le_refl _), d2.trans (b9.mono d2.size)⟩
    · go_wp2_with fail
      refine (CR.out _ d2).mono ?_
      rintro e u3 ⟨b, rfl, hb0, hd, b3⟩
      have d3 := d2.trans (b3.mono d2.size)
      have CW3 := Lib.hid (CW.out u3 b hd d3)
      clear hd CW CR
      go_wp2_with fail
      refine CW3.out.mono ?_
      rintro e u4 ⟨v, rfl, o4, b4⟩
      have d4 := d3.trans (b4.mono d3.size)
      have HO := Lib.hid o4
      obtain ⟨_, A4, c4, rfl, -⟩ := id o4.read
      have CB4 := Lib.hid (CB.out u4 _ c4 A4 o4.read)
      clear o4 CW3 CB
      go_wp2_with fail
      refine CB4.out.mono ?_
      rintro e u5 ⟨rfl, b5⟩
      have d5 := d4.trans (b5.mono d4.size)
      cases bv
      · go_wp2_with (go_at_call 77; refine (CY.out _ d5).mono ?_; rintro e u9 ⟨v, rfl, o9, b9⟩)
        go_ret2
        have e := HV.out
        subst e
        exact ⟨v, rfl, o9.wide d5.size (Nat.le_refl _), d5.trans (b9.mono d5.size)⟩
      · go_wp2
        go_ret2
        have e := HV.out
        subst e
        have O5 := HO.out.below b5 (Nat.le_refl _)
        exact ⟨_, rfl, O5.wide d3.size b5.size, d5⟩
theorem mergeR_next {ys : List RevokedD} {k : Nat} {x : RevokedD} (hx : ys[k]? = some x) (xs : List RevokedD) : mergeR xs (ys.take (k + 1)) = (addF (mergeR xs (ys.take k)) x.Serial x.At).1 := by
  unfold mergeR
  rw [List.take_add_one, hx, List.foldl_append]
  rfl
set_option maxHeartbeats 4000000 in
theorem impl_mergeRevoked (w : World) (hi hi' c c' : Nat) (a a' : Option Addr) (xs ys : List RevokedD) (h : RowRevoked w hi (.slice a xs.length c) xs) (h' : RowRevoked w hi' (.slice a' ys.length c') ys) (hh : hi ≤ w.heap.size) (hh' : hi' ≤ w.heap.size) (hn : xs.length ≤ 1048576) (hwf : ∀ x ∈ ys, x.wf) :
    Calls Try.prog 28 #[.slice a xs.length c, .slice a' ys.length c'] w fun e w' => ∃ u, e = .returned u ∧ OwnRevoked w' w.heap.size w'.heap.size u (mergeR xs ys) ∧ Below w.heap.size w w' := by
  obtain ⟨h1, h2⟩ := h'.fits
  unfold maxLen at h2
  have H' := Lib.hid h'
  have HCP := Lib.hid (impl_copyRevoked w hi c a xs h hh hn)
  have HWF := Lib.hid hwf
  clear h h' hwf
  go_enter Try.func28, Try.ntmps28
  go_wp2_with fail
  refine HCP.out.mono ?_
  rintro e u1 ⟨v, rfl, ho, b1⟩
  have HO := Lib.hid ho
  clear ho
  go_wp2
  go_loopw [5, 12] (fun v i wr => ∃ k : Nat, k ≤ ys.length ∧ i = .int .i64 (k : Int) ∧ OwnRevoked wr w.heap.size wr.heap.size v (mergeR xs (ys.take k)) ∧ Below w.heap.size w wr) (fun _ i _ => ys.length - (intOf i).toNat)
  case atStart => exact ⟨0, Nat.zero_le _, rfl, by rw [List.take_zero]; exact HO.out, b1⟩
  case round =>
    obtain ⟨k, hk, rfl, hown, hb⟩ := hrel
    by_cases hlt : k < ys.length
    · obtain ⟨x, hx⟩ : ∃ x, ys[k]? = some x := ⟨_, List.getElem?_eq_getElem hlt⟩
      have hxw := HWF.out x (List.mem_of_getElem? hx)
      have HS := Lib.hid (mergeR_next hx xs)
      have hm := mergeR_take xs (ys.take k) 1048576 hn (by decide)
      generalize mergeR xs (ys.take k) = M at hown HS hm
      have hr := hown.read
      obtain ⟨_, A, cp, rfl, _⟩ := id hr
      obtain ⟨p0, p1⟩ := x
      dsimp only at HS
      have hba : Below wr.heap.size wr (wr.alloc (.cells #[.int .i64 p0, .int .i64 p1] 99)) := (Below.refl _ _).alloc (Nat.le_refl _) _
      have HP := Lib.hid (impl_addRevoked (wr.alloc (.cells #[.int .i64 p0, .int .i64 p1] 99)) wr.heap.size cp A M p0 p1 (hr.below hba (Nat.le_refl _)) hba.size hm hxw.1)
      generalize addF M p0 p1 = V at HP HS
      have hb1 := hb.trans (hba.mono hb.size)
      clear hr hown hxw
      obtain ⟨b, off, rfl, r1, r2, HC⟩ := H'.out.at hx
      obtain ⟨c0, c1⟩ := HC _ _ r2 hb
      clear HC hx
      go_wp2_with fail
      refine HP.out.mono ?_
      rintro e u2 ⟨v', rfl, ho, b2⟩
      have HO2 := Lib.hid ho
      clear ho
      go_wp2
      refine ⟨⟨k + 1, by omega, by go_num, ?_, hb1.trans (b2.mono hb1.size)⟩, by simp only [intOf]; omega⟩
      have h7 := HS.out
      rw [h7]
      exact HO2.out.wide hb1.size (Nat.le_refl _)
    · go_wp2
      go_ret
      obtain rfl : k = ys.length := by omega
      rw [List.take_of_length_le (Nat.le_refl _)] at hown
      exact ⟨_, rfl, hown, hb⟩
end Go.Proofs.Ytjfmmingkciapaa
