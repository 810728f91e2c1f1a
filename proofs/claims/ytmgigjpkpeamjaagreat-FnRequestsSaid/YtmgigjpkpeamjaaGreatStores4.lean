/- Stores of facts (chapter 7): contracts of the model: a fact is put into a store. -/
import Derived.Test.YtmgigjpkpeamjaaGreatMStores2
import Derived.Test.YtmgigjpkpeamjaaGreatMBlk
namespace Go.Proofs.YtmgigjpkpeamjaaGreat
open Go.ChangeShapes Go.WideShapes Go.ChangeAt Go.RowKit
set_option linter.unusedVariables false

/-- Of two statements of one claim the newer. -/
def newerB (f x : FactD) : Bool := decide (f.At > x.At ∨ f.At = x.At ∧ f.Until > x.Until)
def mergeF (f x : FactD) : FactD := if sameB f x && newerB f x then f else x
def putGo (f : FactD) : Bool → List FactD → List FactD
  | d, [] => if d then [] else [f]
  | d, x :: t => (if !d && beforeB f x then [f] else []) ++ mergeF f x :: putGo f (d || beforeB f x || sameB f x) t
def putF (xs : List FactD) (f : FactD) : List FactD × Bool :=
  if storeB xs && factB f then (if (putGo f false xs).length ≤ 30 then (putGo f false xs, true) else (xs, false)) else (xs, false)
theorem putGo_length (f : FactD) : ∀ (d : Bool) (xs : List FactD), (putGo f d xs).length ≤ 2 * xs.length + 1
  | d, [] => by unfold putGo; split <;> simp
  | d, x :: t => by
    have h := putGo_length f (d || beforeB f x || sameB f x) t
    unfold putGo
    rw [List.length_append, List.length_cons, List.length_cons]
    have : (if (!d && beforeB f x) = true then [f] else []).length ≤ 1 := by split <;> simp
    omega
set_option maxHeartbeats 8000000 in
set_option maxRecDepth 100000 in
theorem spec_putFact (w : World) (hi c : Nat) (a : Option Addr) (xs : List FactD) (f : FactD) (h : RowFact w hi (.slice a xs.length c) xs) (hh : hi ≤ w.heap.size) (hn : xs.length ≤ 1048576) :
    Calls Tryz.prog 36 #[.slice a xs.length c, f.val] w fun e w' => ∃ u, e = .returned (.tuple #[u, .bool (putF xs f).2]) ∧ OwnFact w' w.heap.size w'.heap.size u (putF xs f).1 ∧ Below w.heap.size w w' := by
  obtain ⟨i0, hi0, hz0, hz1, hz2⟩ := info_parts infoFact
  obtain ⟨h1, h2⟩ := h.fits
  unfold maxLen at h2
  obtain ⟨st, hst⟩ : ∃ st, storeB xs = st := ⟨_, rfl⟩
  obtain ⟨fb, hfb⟩ : ∃ fb, factB f = fb := ⟨_, rfl⟩
  have HI := Lib.hid (fun W (hW : Below w.heap.size w W) => show Calls Tryz.prog 60 #[.slice a xs.length c] W fun e w' => e = .returned (.bool st) ∧ Below W.heap.size W w' from hst ▸ spec_isStore W hi c a xs (h.below hW hh) (Nat.le_trans hh hW.size))
  have HF := Lib.hid (fun W => show Calls Tryz.prog 61 #[f.val] W fun e w' => e = .returned (.bool fb) ∧ Below W.heap.size W w' from hfb ▸ spec_isFact f W)
  have HCP := Lib.hid (fun W (hW : Below w.heap.size w W) => spec_l7Copy W hi c a xs (h.below hW hh) (Nat.le_trans hh hW.size) hn)
  have H := Lib.hid h
  have HST := Lib.hid hst
  have HFB := Lib.hid hfb
  clear h hst hfb
  cases hf : f with
  | mk q0 q1 q2 q3 q4 q5 =>
  rw [hf, FactD.val_mk] at HF
  rw [FactD.val_mk, ← hf]
  have HFE := Lib.hid hf
  clear hf
  have hb0 : Below w.heap.size w (w.alloc (.cells #[.int .i64 q0, .int .i64 q1, .int .i64 q2, .int .i64 q3, .int .i64 q4, .int .i64 q5] 34)) := (Below.refl _ _).alloc (Nat.le_refl _) _
  obtain ⟨W0, hW0⟩ : ∃ W0, W0 = w.alloc (.cells #[.int .i64 q0, .int .i64 q1, .int .i64 q2, .int .i64 q3, .int .i64 q4, .int .i64 q5] 34) := ⟨_, rfl⟩
  have hsz : W0.heap.size = w.heap.size + 1 := by rw [hW0]; simp
  have hblk : W0.heap[w.heap.size]? = some (.cells #[.int .i64 q0, .int .i64 q1, .int .i64 q2, .int .i64 q3, .int .i64 q4, .int .i64 q5] 34) := by rw [hW0]; exact blk_new _ _ _
  have HBL := Lib.hid hblk
  rw [← hW0] at hb0
  clear hblk
  go_enter Tryz.func36, Tryz.ntmps36
  go_wp2_with fail
  rw [← hW0]
  clear hW0
  refine (HI.out _ hb0).mono ?_
  rintro e u1 ⟨rfl, b1⟩
  have d1 := hb0.trans (b1.mono hb0.size)
  cases st
  · go_wp2_with fail
    refine (HCP.out _ d1).mono ?_
    rintro e u2 ⟨v, rfl, ho, b2⟩
    go_wp2
    go_ret2
    have e1 : putF xs f = (xs, false) := by unfold putF; rw [HST.out]; rfl
    rw [e1]
    exact ⟨v, rfl, ho.wide d1.size (Nat.le_refl _), d1.trans (b2.mono d1.size)⟩
  · have d1' : Below (w.heap.size + 1) W0 u1 := b1.mono (Nat.le_of_eq hsz.symm)
    have kf := blk_keep HBL.out d1' (Nat.lt_succ_self _)
    have k0 := blk_cell kf 0 rfl
    have k1 := blk_cell kf 1 rfl
    have k2 := blk_cell kf 2 rfl
    have k3 := blk_cell kf 3 rfl
    have k4 := blk_cell kf 4 rfl
    have k5 := blk_cell kf 5 rfl
    clear kf
    go_wp2_with fail
    refine (HF.out _).mono ?_
    rintro e u2 ⟨rfl, b2⟩
    have d2 := d1.trans (b2.mono d1.size)
    have d2' := d1'.trans (b2.mono (Nat.le_trans (Nat.le_of_eq hsz.symm) d1'.size))
    clear k0 k1 k2 k3 k4 k5
    cases fb
    · go_wp2_with fail
      refine (HCP.out _ d2).mono ?_
      rintro e u3 ⟨v, rfl, ho, b3⟩
      go_wp2
      go_ret2
      have e1 : putF xs f = (xs, false) := by unfold putF; rw [HST.out, HFB.out]; rfl
      rw [e1]
      exact ⟨v, rfl, ho.wide d2.size (Nat.le_refl _), d2.trans (b3.mono d2.size)⟩
    · have hx30 : xs.length ≤ 30 := by
        have := HST.out
        unfold storeB at this
        rw [Bool.and_eq_true] at this
        exact of_decide_eq_true this.2
      have hu2 : w.heap.size + 1 ≤ u2.heap.size := Nat.le_trans (Nat.le_of_eq hsz.symm) d2'.size
      have hE := OwnC.empty 34 6 u2
      have d3' : Below (w.heap.size + 1) W0 (u2.alloc (.cells #[] 34)) := d2'.alloc hu2 _
      go_wp2
      go_loopw [6, 7, 8] (fun v d i wr => ∃ (k : Nat) (dd : Bool) (P : List FactD), k ≤ xs.length ∧ i = .int .i64 (k : Int) ∧ d = .bool dd ∧ OwnFact wr (w.heap.size + 1) wr.heap.size v P ∧ Hid (putGo f false xs = P ++ putGo f dd (xs.drop k)) ∧ Below (w.heap.size + 1) W0 wr) (fun _ _ i _ => xs.length - (intOf i).toNat)
      case atStart => exact ⟨0, false, [], Nat.zero_le _, rfl, rfl, by show OwnC _ 6 _ _ _ _ 0 []; simpa using hE.wide hu2 (Nat.le_refl _), rfl, d3'⟩
      case round =>
        obtain ⟨k, dd, P, hk, rfl, rfl, hown, HP, hb⟩ := hrel
        by_cases hlt : k < xs.length
        · obtain ⟨x, hx⟩ : ∃ x, xs[k]? = some x := ⟨_, List.getElem?_eq_getElem hlt⟩
          have hdr : xs.drop k = x :: xs.drop (k + 1) := by
            rw [List.drop_eq_getElem_cons hlt]
            rw [List.getElem?_eq_getElem hlt] at hx
            rw [Option.some.inj hx]
          have HS := Lib.hid (show putGo f false xs = P ++ ((if !dd && beforeB f x then [f] else []) ++ mergeF f x :: putGo f (dd || beforeB f x || sameB f x) (xs.drop (k + 1))) by
            rw [HP.out, hdr]
            rfl)
          have hP : P.length ≤ 61 := by
            have h5 := putGo_length f false xs
            rw [HP.out, List.length_append] at h5
            omega
          clear hdr HP
          obtain ⟨bf, hbf⟩ : ∃ bf, beforeB f x = bf := ⟨_, rfl⟩
          obtain ⟨sm, hsm⟩ : ∃ sm, sameB f x = sm := ⟨_, rfl⟩
          have HB := Lib.hid (fun W => show Calls Tryz.prog 63 #[f.val, x.val] W fun e w' => e = .returned (.bool bf) ∧ Below W.heap.size W w' from hbf ▸ spec_before f x W)
          have HM := Lib.hid (fun W => show Calls Tryz.prog 64 #[f.val, x.val] W fun e w' => e = .returned (.bool sm) ∧ Below W.heap.size W w' from hsm ▸ spec_same f x W)
          rw [hbf, hsm] at HS
          have HBF := Lib.hid hbf
          have HSM := Lib.hid hsm
          clear hbf hsm
          obtain ⟨b, off, rfl, g1, g2, HCX⟩ := H.out.at (p0 := x.Kind) (p1 := x.Subject) (p2 := x.Value) (p3 := x.Issuer) (p4 := x.At) (p5 := x.Until) hx
          cases hxe : x with
          | mk p0 p1 p2 p3 p4 p5 =>
          have HXE := Lib.hid hxe
          rw [hxe, HFE.out, FactD.val_mk, FactD.val_mk] at HB HM
          have HC := Lib.hid (fun (w' : World) (hb' : Below (w.heap.size + 1) W0 w') => (⟨⟨⟨blk_cell (blk_keep HBL.out hb' (Nat.lt_succ_self _)) 0 rfl, blk_cell (blk_keep HBL.out hb' (Nat.lt_succ_self _)) 1 rfl, blk_cell (blk_keep HBL.out hb' (Nat.lt_succ_self _)) 2 rfl, blk_cell (blk_keep HBL.out hb' (Nat.lt_succ_self _)) 3 rfl, blk_cell (blk_keep HBL.out hb' (Nat.lt_succ_self _)) 4 rfl, blk_cell (blk_keep HBL.out hb' (Nat.lt_succ_self _)) 5 rfl⟩,
            by have := HCX _ _ g2 (hb0.trans (hb'.mono (Nat.le_succ _))); rw [hxe] at this; exact this⟩, hb'⟩ : ((w'.cell? ⟨w.heap.size, 0, none⟩ = some (.int .i64 q0) ∧ w'.cell? ⟨w.heap.size, 1, none⟩ = some (.int .i64 q1) ∧ w'.cell? ⟨w.heap.size, 2, none⟩ = some (.int .i64 q2) ∧ w'.cell? ⟨w.heap.size, 3, none⟩ = some (.int .i64 q3) ∧ w'.cell? ⟨w.heap.size, 4, none⟩ = some (.int .i64 q4) ∧ w'.cell? ⟨w.heap.size, 5, none⟩ = some (.int .i64 q5)) ∧ (w'.cell? ⟨b, off + k * 6, none⟩ = some (.int .i64 p0) ∧ w'.cell? ⟨b, off + k * 6 + 1, none⟩ = some (.int .i64 p1) ∧ w'.cell? ⟨b, off + k * 6 + 2, none⟩ = some (.int .i64 p2) ∧ w'.cell? ⟨b, off + k * 6 + 3, none⟩ = some (.int .i64 p3) ∧ w'.cell? ⟨b, off + k * 6 + 4, none⟩ = some (.int .i64 p4) ∧ w'.cell? ⟨b, off + k * 6 + 5, none⟩ = some (.int .i64 p5))) ∧ Below (w.heap.size + 1) W0 w'))
          have HO := Lib.hid hown
          clear hxe HCX hx hown
          cases dd
          · cases bf
            · go_wp2_with fail
              refine wp_region_held_drew (S := fun w' => ((w'.cell? ⟨w.heap.size, 0, none⟩ = some (.int .i64 q0) ∧ w'.cell? ⟨w.heap.size, 1, none⟩ = some (.int .i64 q1) ∧ w'.cell? ⟨w.heap.size, 2, none⟩ = some (.int .i64 q2) ∧ w'.cell? ⟨w.heap.size, 3, none⟩ = some (.int .i64 q3) ∧ w'.cell? ⟨w.heap.size, 4, none⟩ = some (.int .i64 q4) ∧ w'.cell? ⟨w.heap.size, 5, none⟩ = some (.int .i64 q5)) ∧ (w'.cell? ⟨b, off + k * 6, none⟩ = some (.int .i64 p0) ∧ w'.cell? ⟨b, off + k * 6 + 1, none⟩ = some (.int .i64 p1) ∧ w'.cell? ⟨b, off + k * 6 + 2, none⟩ = some (.int .i64 p2) ∧ w'.cell? ⟨b, off + k * 6 + 3, none⟩ = some (.int .i64 p3) ∧ w'.cell? ⟨b, off + k * 6 + 4, none⟩ = some (.int .i64 p4) ∧ w'.cell? ⟨b, off + k * 6 + 5, none⟩ = some (.int .i64 p5))) ∧ Below (w.heap.size + 1) W0 w') (by kernel_rfl) (HC.out _ hb.drew) (fun hHeld => ?_)
              refine wpAnyH_take (i := 0) (oi := ⟨some 27, _, _, _, _, _⟩) (v := ?_) rfl (by kernel_rfl) (by kernel_rfl) (by kernel_rfl) (fun _ _ _ h => h) (Or.inl ⟨by rfl, ?_⟩) (by assumption) ?_
              rotate_left
              · intro w hSw; (try dsimp only at hSw); go_simp <;> (with_reducible rfl)
              (try simp only [Act.put, List.setIfInBounds_toArray, List.set_cons_zero, List.set_cons_succ])
              refine wpAnyH_take (i := 1) (oi := ⟨some 28, _, _, _, _, _⟩) (v := ?_) rfl (by kernel_rfl) (by kernel_rfl) (by kernel_rfl) (fun _ _ _ h => h) (Or.inl ⟨by rfl, ?_⟩) (by assumption) ?_
              rotate_left
              · intro w hSw; (try dsimp only at hSw); go_simp <;> (with_reducible rfl)
              (try simp only [Act.put, List.setIfInBounds_toArray, List.set_cons_zero, List.set_cons_succ])
              refine wpAnyH_take (i := 2) (oi := ⟨some 29, _, _, _, _, _⟩) (v := ?_) rfl (by kernel_rfl) (by kernel_rfl) (by kernel_rfl) (fun _ _ _ h => h) (Or.inl ⟨by rfl, ?_⟩) (by assumption) ?_
              rotate_left
              · intro w hSw; (try dsimp only at hSw); go_simp <;> (with_reducible rfl)
              (try simp only [Act.put, List.setIfInBounds_toArray, List.set_cons_zero, List.set_cons_succ])
              refine wpAnyH_take (i := 3) (oi := ⟨some 30, _, _, _, _, _⟩) (v := ?_) rfl (by kernel_rfl) (by kernel_rfl) (by kernel_rfl) (fun _ _ _ h => h) (Or.inl ⟨by rfl, ?_⟩) (by assumption) ?_
              rotate_left
              · intro w hSw; (try dsimp only at hSw); go_simp <;> (with_reducible rfl)
              (try simp only [Act.put, List.setIfInBounds_toArray, List.set_cons_zero, List.set_cons_succ])
              refine wpAnyH_take (i := 4) (oi := ⟨some 31, _, _, _, _, _⟩) (v := ?_) rfl (by kernel_rfl) (by kernel_rfl) (by kernel_rfl) (fun _ _ _ h => h) (Or.inl ⟨by rfl, ?_⟩) (by assumption) ?_
              rotate_left
              · intro w hSw; (try dsimp only at hSw); go_simp <;> (with_reducible rfl)
              (try simp only [Act.put, List.setIfInBounds_toArray, List.set_cons_zero, List.set_cons_succ])
              refine wpAnyH_take (i := 5) (oi := ⟨some 32, _, _, _, _, _⟩) (v := ?_) rfl (by kernel_rfl) (by kernel_rfl) (by kernel_rfl) (fun _ _ _ h => h) (Or.inl ⟨by rfl, ?_⟩) (by assumption) ?_
              rotate_left
              · intro w hSw; (try dsimp only at hSw); go_simp <;> (with_reducible rfl)
              (try simp only [Act.put, List.setIfInBounds_toArray, List.set_cons_zero, List.set_cons_succ])
              refine wpAnyH_take (i := 6) (oi := ⟨some 33, _, _, _, _, _⟩) (v := ?_) rfl (by kernel_rfl) (by kernel_rfl) (by kernel_rfl) (fun _ _ _ h => h) (Or.inl ⟨by rfl, ?_⟩) (by assumption) ?_
              rotate_left
              · intro w hSw; (try dsimp only at hSw); go_simp <;> (with_reducible rfl)
              (try simp only [Act.put, List.setIfInBounds_toArray, List.set_cons_zero, List.set_cons_succ])
              refine wpAnyH_take (i := 7) (oi := ⟨some 34, _, _, _, _, _⟩) (v := ?_) rfl (by kernel_rfl) (by kernel_rfl) (by kernel_rfl) (fun _ _ _ h => h) (Or.inl ⟨by rfl, ?_⟩) (by assumption) ?_
              rotate_left
              · intro w hSw; (try dsimp only at hSw); go_simp <;> (with_reducible rfl)
              (try simp only [Act.put, List.setIfInBounds_toArray, List.set_cons_zero, List.set_cons_succ])
              refine wpAnyH_ready (rs := [8]) (by kernel_rfl) (by simp) ?_
              refine AllReadyH.cons (o := ⟨some 35, _, _, _, _, _⟩) rfl (fun K hK => ?_) AllReadyH.nil
              go_simp
              (with_reducible refine (HB.out _).mono ?_)
              rintro e u ⟨rfl, b1'⟩
              have bw : Below wr.heap.size wr u := ⟨b1'.os, b1'.tape, b1'.output, b1'.size, b1'.block⟩
              have eu := hb.trans (bw.mono (Nat.le_trans (Nat.le_of_eq hsz.symm) hb.size))
              refine hK.out _ _ (HC.out _ eu) (fun hHeld2 => ?_)
              clear hK K
              (try simp only [Act.put, List.setIfInBounds_toArray, List.set_cons_zero, List.set_cons_succ])
              refine wpAnyH_take (i := 9) (oi := ⟨some 36, _, _, _, _, _⟩) (v := ?_) rfl (by kernel_rfl) (by kernel_rfl) (by kernel_rfl) (fun _ _ _ h => h) (Or.inl ⟨by rfl, ?_⟩) (by assumption) ?_
              rotate_left
              · intro w hSw; (try dsimp only at hSw); go_simp <;> (with_reducible rfl)
              (try simp only [Act.put, List.setIfInBounds_toArray, List.set_cons_zero, List.set_cons_succ])
              refine wpAnyH_done (by kernel_rfl) ?_ _
              have ou := (HO.out.below bw (Nat.le_refl _)).wide (Nat.le_refl _) bw.size
              have eW := eu

              have hW : w.heap.size + 1 ≤ u.heap.size := Nat.le_trans (Nat.le_of_eq hsz.symm) eW.size
              have eA := eW.alloc hW (.cells #[.int .i64 p0, .int .i64 p1, .int .i64 p2, .int .i64 p3, .int .i64 p4, .int .i64 p5] 34)
              have bA : Below u.heap.size u (u.alloc (.cells #[.int .i64 p0, .int .i64 p1, .int .i64 p2, .int .i64 p3, .int .i64 p4, .int .i64 p5] 34)) := (Below.refl _ _).alloc (Nat.le_refl _) _
              have oA := ou.below bA (Nat.le_refl _)
              obtain ⟨⟨⟨f0, f1, f2, f3, f4, f5⟩, ⟨x0, x1, x2, x3, x4, x5⟩⟩, _⟩ := HC.out _ eA
              obtain ⟨⟨_, ⟨y0, y1, y2, y3, y4, y5⟩⟩, _⟩ := HC.out _ eW
              go_wp2_with fail
              refine (HM.out _).mono ?_
              rintro e u3 ⟨rfl, b3⟩
              have hM : u.heap.size < (u.alloc (.cells #[.int .i64 p0, .int .i64 p1, .int .i64 p2, .int .i64 p3, .int .i64 p4, .int .i64 p5] 34)).heap.size := by rw [size_alloc]; exact Nat.lt_succ_self _
              have hAl := Nat.le_trans hW (Nat.le_of_lt hM)
              have b3' : Below (u.alloc (.cells #[.int .i64 p0, .int .i64 p1, .int .i64 p2, .int .i64 p3, .int .i64 p4, .int .i64 p5] 34)).heap.size (u.alloc (.cells #[.int .i64 p0, .int .i64 p1, .int .i64 p2, .int .i64 p3, .int .i64 p4, .int .i64 p5] 34)) u3 := ⟨b3.os, b3.tape, b3.output, b3.size, b3.block⟩
              have e3 := eA.trans (b3'.mono hAl)
              have o3 := oA.below b3' (Nat.le_of_lt hM)
              have hM3 := Nat.lt_of_lt_of_le hM b3'.size
              have bk := blk_keep (blk_new u 34 #[.int .i64 p0, .int .i64 p1, .int .i64 p2, .int .i64 p3, .int .i64 p4, .int .i64 p5]) b3' hM
              have HO3 := Lib.hid o3
              have HBK := Lib.hid bk
              clear f0 f1 f2 f3 f4 f5 x0 x1 x2 x3 x4 x5 y0 y1 y2 y3 y4 y5 oA o3 bk
              obtain ⟨⟨⟨f0, f1, f2, f3, f4, f5⟩, _⟩, _⟩ := HC.out _ e3
              have z0 := blk_cell HBK.out 0 rfl
              have z1 := blk_cell HBK.out 1 rfl
              have z2 := blk_cell HBK.out 2 rfl
              have z3 := blk_cell HBK.out 3 rfl
              have z4 := blk_cell HBK.out 4 rfl
              have z5 := blk_cell HBK.out 5 rfl
              cases sm
              · have bN : Below u3.heap.size u3 (u3.alloc (.cells #[.int .i64 p0, .int .i64 p1, .int .i64 p2, .int .i64 p3, .int .i64 p4, .int .i64 p5] 34)) := (Below.refl _ _).alloc (Nat.le_refl _) _
                have oN := HO3.out.below bN (Nat.le_of_lt hM3)
                have rN := rowC_one 6 34 u3 [.int .i64 p0, .int .i64 p1, .int .i64 p2, .int .i64 p3, .int .i64 p4, .int .i64 p5] rfl
                have lN := Nat.le_trans (Nat.le_trans hAl b3'.size) bN.size
                have eN := e3.trans (bN.mono (Nat.le_trans hAl b3'.size))
                go_wp2_with (at_builtin; refine wpList_append_OwnC rfl _ _ _ rfl i0 (.agg zerosFact.toArray) 48 Tryz.underlying25 hi0 hz0 hz1 hz2 rfl (by decide) rfl oN _ _ _ _ rfl rN (FactD.one ⟨p0, p1, p2, p3, p4, p5⟩) (by (try simp only [List.length_append, List.length_cons, List.length_nil]); omega) (by decide) lN ?_; intro v' w' ho hb')

                refine ⟨⟨k + 1, false, P ++ [⟨p0, p1, p2, p3, p4, p5⟩], by omega, by go_num, rfl, ?_, ?_, ?_⟩, by simp only [intOf]; omega⟩
                · exact OwnC.joined (f := FactD.cells) (ys := [⟨p0, p1, p2, p3, p4, p5⟩]) ho
                · unfold Hid
                  rw [HS.out, show mergeF f x = ⟨p0, p1, p2, p3, p4, p5⟩ by unfold mergeF; rw [HSM.out]; exact HXE.out]
                  first | (simp; done) | (simp; exact HFE.out)
                · exact eN.trans hb'
              · rcases hnw : newerB f x with _ | _
                · have hd : decide (q4 > p4) = false ∧ ((q4 == p4) = false ∨ (q4 == p4) = true ∧ decide (q5 > p5) = false) := by
                    rw [HFE.out, HXE.out] at hnw
                    simp only [newerB, decide_eq_false_iff_not, beq_eq_false_iff_ne, beq_iff_eq, ne_eq] at hnw ⊢
                    omega
                  have HNW := Lib.hid hnw
                  clear hnw
                  rcases hd with ⟨n0, n1 | ⟨n1, n2⟩⟩
                  · have bN : Below u3.heap.size u3 (u3.alloc (.cells #[.int .i64 p0, .int .i64 p1, .int .i64 p2, .int .i64 p3, .int .i64 p4, .int .i64 p5] 34)) := (Below.refl _ _).alloc (Nat.le_refl _) _
                    have oN := HO3.out.below bN (Nat.le_of_lt hM3)
                    have rN := rowC_one 6 34 u3 [.int .i64 p0, .int .i64 p1, .int .i64 p2, .int .i64 p3, .int .i64 p4, .int .i64 p5] rfl
                    have lN := Nat.le_trans (Nat.le_trans hAl b3'.size) bN.size
                    have eN := e3.trans (bN.mono (Nat.le_trans hAl b3'.size))
                    go_wp2_with (at_builtin; refine wpList_append_OwnC rfl _ _ _ rfl i0 (.agg zerosFact.toArray) 48 Tryz.underlying25 hi0 hz0 hz1 hz2 rfl (by decide) rfl oN _ _ _ _ rfl rN (FactD.one ⟨p0, p1, p2, p3, p4, p5⟩) (by (try simp only [List.length_append, List.length_cons, List.length_nil]); omega) (by decide) lN ?_; intro v' w' ho hb')

                    refine ⟨⟨k + 1, true, P ++ [⟨p0, p1, p2, p3, p4, p5⟩], by omega, by go_num, rfl, ?_, ?_, ?_⟩, by simp only [intOf]; omega⟩
                    · exact OwnC.joined (f := FactD.cells) (ys := [⟨p0, p1, p2, p3, p4, p5⟩]) ho
                    · unfold Hid
                      rw [HS.out, show mergeF f x = ⟨p0, p1, p2, p3, p4, p5⟩ by unfold mergeF; rw [HSM.out, HNW.out]; exact HXE.out]
                      first | (simp; done) | (simp; exact HFE.out)
                    · exact eN.trans hb'
                  · have n1' : q4 = p4 := by simpa using n1
                    subst n1'

                    have bN : Below u3.heap.size u3 (u3.alloc (.cells #[.int .i64 p0, .int .i64 p1, .int .i64 p2, .int .i64 p3, .int .i64 q4, .int .i64 p5] 34)) := (Below.refl _ _).alloc (Nat.le_refl _) _
                    have oN := HO3.out.below bN (Nat.le_of_lt hM3)
                    have rN := rowC_one 6 34 u3 [.int .i64 p0, .int .i64 p1, .int .i64 p2, .int .i64 p3, .int .i64 q4, .int .i64 p5] rfl
                    have lN := Nat.le_trans (Nat.le_trans hAl b3'.size) bN.size
                    have eN := e3.trans (bN.mono (Nat.le_trans hAl b3'.size))
                    go_wp2_with (at_builtin; refine wpList_append_OwnC rfl _ _ _ rfl i0 (.agg zerosFact.toArray) 48 Tryz.underlying25 hi0 hz0 hz1 hz2 rfl (by decide) rfl oN _ _ _ _ rfl rN (FactD.one ⟨p0, p1, p2, p3, q4, p5⟩) (by (try simp only [List.length_append, List.length_cons, List.length_nil]); omega) (by decide) lN ?_; intro v' w' ho hb')

                    refine ⟨⟨k + 1, true, P ++ [⟨p0, p1, p2, p3, q4, p5⟩], by omega, by go_num, rfl, ?_, ?_, ?_⟩, by simp only [intOf]; omega⟩
                    · exact OwnC.joined (f := FactD.cells) (ys := [⟨p0, p1, p2, p3, q4, p5⟩]) ho
                    · unfold Hid
                      rw [HS.out, show mergeF f x = ⟨p0, p1, p2, p3, q4, p5⟩ by unfold mergeF; rw [HSM.out, HNW.out]; exact HXE.out]
                      first | (simp; done) | (simp; exact HFE.out)
                    · exact eN.trans hb'
                · have hd : decide (q4 > p4) = true ∨ decide (q4 > p4) = false ∧ (q4 == p4) = true ∧ decide (q5 > p5) = true := by
                    rw [HFE.out, HXE.out] at hnw
                    simp only [newerB, decide_eq_false_iff_not, beq_iff_eq, decide_eq_true_eq] at hnw ⊢
                    omega
                  have HNW := Lib.hid hnw
                  clear hnw
                  rcases hd with n0 | ⟨n0, n1, n2⟩
                  · have g0 : u3.frozen? ⟨u.heap.size, 0, none⟩ = false := blk_frozen HBK.out 0
                    have g1 : u3.frozen? ⟨u.heap.size, 1, none⟩ = false := blk_frozen HBK.out 1
                    have g2 : u3.frozen? ⟨u.heap.size, 2, none⟩ = false := blk_frozen HBK.out 2
                    have g3 : u3.frozen? ⟨u.heap.size, 3, none⟩ = false := blk_frozen HBK.out 3
                    have g4 : u3.frozen? ⟨u.heap.size, 4, none⟩ = false := blk_frozen HBK.out 4
                    have g5 : u3.frozen? ⟨u.heap.size, 5, none⟩ = false := blk_frozen HBK.out 5
                    have oS := OwnC.setFar (g := u.heap.size) [.int .i64 q0, .int .i64 q1, .int .i64 q2, .int .i64 q3, .int .i64 q4, .int .i64 q5] 0 HO3.out (Nat.le_refl _)
                    have eS := Below.setMany (g := u.heap.size) hW [.int .i64 q0, .int .i64 q1, .int .i64 q2, .int .i64 q3, .int .i64 q4, .int .i64 q5] 0 e3
                    simp only [wsetMany, Nat.zero_add, Nat.reduceAdd] at oS eS
                    have bN : Below ((((((u3.setCell ⟨u.heap.size, 0, none⟩ (.int .i64 q0)).setCell ⟨u.heap.size, 1, none⟩ (.int .i64 q1)).setCell ⟨u.heap.size, 2, none⟩ (.int .i64 q2)).setCell ⟨u.heap.size, 3, none⟩ (.int .i64 q3)).setCell ⟨u.heap.size, 4, none⟩ (.int .i64 q4)).setCell ⟨u.heap.size, 5, none⟩ (.int .i64 q5)).heap.size ((((((u3.setCell ⟨u.heap.size, 0, none⟩ (.int .i64 q0)).setCell ⟨u.heap.size, 1, none⟩ (.int .i64 q1)).setCell ⟨u.heap.size, 2, none⟩ (.int .i64 q2)).setCell ⟨u.heap.size, 3, none⟩ (.int .i64 q3)).setCell ⟨u.heap.size, 4, none⟩ (.int .i64 q4)).setCell ⟨u.heap.size, 5, none⟩ (.int .i64 q5)) (((((((u3.setCell ⟨u.heap.size, 0, none⟩ (.int .i64 q0)).setCell ⟨u.heap.size, 1, none⟩ (.int .i64 q1)).setCell ⟨u.heap.size, 2, none⟩ (.int .i64 q2)).setCell ⟨u.heap.size, 3, none⟩ (.int .i64 q3)).setCell ⟨u.heap.size, 4, none⟩ (.int .i64 q4)).setCell ⟨u.heap.size, 5, none⟩ (.int .i64 q5)).alloc (.cells #[.int .i64 q0, .int .i64 q1, .int .i64 q2, .int .i64 q3, .int .i64 q4, .int .i64 q5] 34)) := (Below.refl _ _).alloc (Nat.le_refl _) _
                    have oN : OwnFact (((((((u3.setCell ⟨u.heap.size, 0, none⟩ (.int .i64 q0)).setCell ⟨u.heap.size, 1, none⟩ (.int .i64 q1)).setCell ⟨u.heap.size, 2, none⟩ (.int .i64 q2)).setCell ⟨u.heap.size, 3, none⟩ (.int .i64 q3)).setCell ⟨u.heap.size, 4, none⟩ (.int .i64 q4)).setCell ⟨u.heap.size, 5, none⟩ (.int .i64 q5)).alloc (.cells #[.int .i64 q0, .int .i64 q1, .int .i64 q2, .int .i64 q3, .int .i64 q4, .int .i64 q5] 34)) (w.heap.size + 1) u.heap.size _ _ := oS.below bN (by simp [World.setCell]; exact Nat.le_of_lt hM3)
                    have rN := rowC_one 6 34 ((((((u3.setCell ⟨u.heap.size, 0, none⟩ (.int .i64 q0)).setCell ⟨u.heap.size, 1, none⟩ (.int .i64 q1)).setCell ⟨u.heap.size, 2, none⟩ (.int .i64 q2)).setCell ⟨u.heap.size, 3, none⟩ (.int .i64 q3)).setCell ⟨u.heap.size, 4, none⟩ (.int .i64 q4)).setCell ⟨u.heap.size, 5, none⟩ (.int .i64 q5)) [.int .i64 q0, .int .i64 q1, .int .i64 q2, .int .i64 q3, .int .i64 q4, .int .i64 q5] rfl
                    have hsz4 : ((((((u3.setCell ⟨u.heap.size, 0, none⟩ (.int .i64 q0)).setCell ⟨u.heap.size, 1, none⟩ (.int .i64 q1)).setCell ⟨u.heap.size, 2, none⟩ (.int .i64 q2)).setCell ⟨u.heap.size, 3, none⟩ (.int .i64 q3)).setCell ⟨u.heap.size, 4, none⟩ (.int .i64 q4)).setCell ⟨u.heap.size, 5, none⟩ (.int .i64 q5)).heap.size = u3.heap.size := by simp [World.setCell]
                    rw [hsz4] at rN
                    clear hsz4
                    have lN : w.heap.size + 1 ≤ (((((((u3.setCell ⟨u.heap.size, 0, none⟩ (.int .i64 q0)).setCell ⟨u.heap.size, 1, none⟩ (.int .i64 q1)).setCell ⟨u.heap.size, 2, none⟩ (.int .i64 q2)).setCell ⟨u.heap.size, 3, none⟩ (.int .i64 q3)).setCell ⟨u.heap.size, 4, none⟩ (.int .i64 q4)).setCell ⟨u.heap.size, 5, none⟩ (.int .i64 q5)).alloc (.cells #[.int .i64 q0, .int .i64 q1, .int .i64 q2, .int .i64 q3, .int .i64 q4, .int .i64 q5] 34)).heap.size := Nat.le_trans (by simp [World.setCell]; exact Nat.le_trans hAl b3'.size) bN.size
                    have eN : Below (w.heap.size + 1) W0 (((((((u3.setCell ⟨u.heap.size, 0, none⟩ (.int .i64 q0)).setCell ⟨u.heap.size, 1, none⟩ (.int .i64 q1)).setCell ⟨u.heap.size, 2, none⟩ (.int .i64 q2)).setCell ⟨u.heap.size, 3, none⟩ (.int .i64 q3)).setCell ⟨u.heap.size, 4, none⟩ (.int .i64 q4)).setCell ⟨u.heap.size, 5, none⟩ (.int .i64 q5)).alloc (.cells #[.int .i64 q0, .int .i64 q1, .int .i64 q2, .int .i64 q3, .int .i64 q4, .int .i64 q5] 34)) := eS.trans (bN.mono (by simp [World.setCell]; exact Nat.le_trans hAl b3'.size))
                    go_wp2_with (at_builtin; refine wpList_append_OwnC rfl _ _ _ rfl i0 (.agg zerosFact.toArray) 48 Tryz.underlying25 hi0 hz0 hz1 hz2 rfl (by decide) rfl oN _ _ _ _ rfl rN (FactD.one ⟨q0, q1, q2, q3, q4, q5⟩) (by (try simp only [List.length_append, List.length_cons, List.length_nil]); omega) (by decide) lN ?_; intro v' w' ho hb')

                    refine ⟨⟨k + 1, true, P ++ [⟨q0, q1, q2, q3, q4, q5⟩], by omega, by go_num, rfl, ?_, ?_, ?_⟩, by simp only [intOf]; omega⟩
                    · exact OwnC.joined (f := FactD.cells) (ys := [⟨q0, q1, q2, q3, q4, q5⟩]) ho
                    · unfold Hid
                      rw [HS.out, show mergeF f x = ⟨q0, q1, q2, q3, q4, q5⟩ by unfold mergeF; rw [HSM.out, HNW.out]; exact HFE.out]
                      first | (simp; done) | (simp; exact HFE.out)
                    · exact eN.trans hb'
                  · have n1' : q4 = p4 := by simpa using n1
                    subst n1'

                    have g0 : u3.frozen? ⟨u.heap.size, 0, none⟩ = false := blk_frozen HBK.out 0
                    have g1 : u3.frozen? ⟨u.heap.size, 1, none⟩ = false := blk_frozen HBK.out 1
                    have g2 : u3.frozen? ⟨u.heap.size, 2, none⟩ = false := blk_frozen HBK.out 2
                    have g3 : u3.frozen? ⟨u.heap.size, 3, none⟩ = false := blk_frozen HBK.out 3
                    have g4 : u3.frozen? ⟨u.heap.size, 4, none⟩ = false := blk_frozen HBK.out 4
                    have g5 : u3.frozen? ⟨u.heap.size, 5, none⟩ = false := blk_frozen HBK.out 5
                    have oS := OwnC.setFar (g := u.heap.size) [.int .i64 q0, .int .i64 q1, .int .i64 q2, .int .i64 q3, .int .i64 q4, .int .i64 q5] 0 HO3.out (Nat.le_refl _)
                    have eS := Below.setMany (g := u.heap.size) hW [.int .i64 q0, .int .i64 q1, .int .i64 q2, .int .i64 q3, .int .i64 q4, .int .i64 q5] 0 e3
                    simp only [wsetMany, Nat.zero_add, Nat.reduceAdd] at oS eS
                    have bN : Below ((((((u3.setCell ⟨u.heap.size, 0, none⟩ (.int .i64 q0)).setCell ⟨u.heap.size, 1, none⟩ (.int .i64 q1)).setCell ⟨u.heap.size, 2, none⟩ (.int .i64 q2)).setCell ⟨u.heap.size, 3, none⟩ (.int .i64 q3)).setCell ⟨u.heap.size, 4, none⟩ (.int .i64 q4)).setCell ⟨u.heap.size, 5, none⟩ (.int .i64 q5)).heap.size ((((((u3.setCell ⟨u.heap.size, 0, none⟩ (.int .i64 q0)).setCell ⟨u.heap.size, 1, none⟩ (.int .i64 q1)).setCell ⟨u.heap.size, 2, none⟩ (.int .i64 q2)).setCell ⟨u.heap.size, 3, none⟩ (.int .i64 q3)).setCell ⟨u.heap.size, 4, none⟩ (.int .i64 q4)).setCell ⟨u.heap.size, 5, none⟩ (.int .i64 q5)) (((((((u3.setCell ⟨u.heap.size, 0, none⟩ (.int .i64 q0)).setCell ⟨u.heap.size, 1, none⟩ (.int .i64 q1)).setCell ⟨u.heap.size, 2, none⟩ (.int .i64 q2)).setCell ⟨u.heap.size, 3, none⟩ (.int .i64 q3)).setCell ⟨u.heap.size, 4, none⟩ (.int .i64 q4)).setCell ⟨u.heap.size, 5, none⟩ (.int .i64 q5)).alloc (.cells #[.int .i64 q0, .int .i64 q1, .int .i64 q2, .int .i64 q3, .int .i64 q4, .int .i64 q5] 34)) := (Below.refl _ _).alloc (Nat.le_refl _) _
                    have oN : OwnFact (((((((u3.setCell ⟨u.heap.size, 0, none⟩ (.int .i64 q0)).setCell ⟨u.heap.size, 1, none⟩ (.int .i64 q1)).setCell ⟨u.heap.size, 2, none⟩ (.int .i64 q2)).setCell ⟨u.heap.size, 3, none⟩ (.int .i64 q3)).setCell ⟨u.heap.size, 4, none⟩ (.int .i64 q4)).setCell ⟨u.heap.size, 5, none⟩ (.int .i64 q5)).alloc (.cells #[.int .i64 q0, .int .i64 q1, .int .i64 q2, .int .i64 q3, .int .i64 q4, .int .i64 q5] 34)) (w.heap.size + 1) u.heap.size _ _ := oS.below bN (by simp [World.setCell]; exact Nat.le_of_lt hM3)
                    have rN := rowC_one 6 34 ((((((u3.setCell ⟨u.heap.size, 0, none⟩ (.int .i64 q0)).setCell ⟨u.heap.size, 1, none⟩ (.int .i64 q1)).setCell ⟨u.heap.size, 2, none⟩ (.int .i64 q2)).setCell ⟨u.heap.size, 3, none⟩ (.int .i64 q3)).setCell ⟨u.heap.size, 4, none⟩ (.int .i64 q4)).setCell ⟨u.heap.size, 5, none⟩ (.int .i64 q5)) [.int .i64 q0, .int .i64 q1, .int .i64 q2, .int .i64 q3, .int .i64 q4, .int .i64 q5] rfl
                    have hsz4 : ((((((u3.setCell ⟨u.heap.size, 0, none⟩ (.int .i64 q0)).setCell ⟨u.heap.size, 1, none⟩ (.int .i64 q1)).setCell ⟨u.heap.size, 2, none⟩ (.int .i64 q2)).setCell ⟨u.heap.size, 3, none⟩ (.int .i64 q3)).setCell ⟨u.heap.size, 4, none⟩ (.int .i64 q4)).setCell ⟨u.heap.size, 5, none⟩ (.int .i64 q5)).heap.size = u3.heap.size := by simp [World.setCell]
                    rw [hsz4] at rN
                    clear hsz4
                    have lN : w.heap.size + 1 ≤ (((((((u3.setCell ⟨u.heap.size, 0, none⟩ (.int .i64 q0)).setCell ⟨u.heap.size, 1, none⟩ (.int .i64 q1)).setCell ⟨u.heap.size, 2, none⟩ (.int .i64 q2)).setCell ⟨u.heap.size, 3, none⟩ (.int .i64 q3)).setCell ⟨u.heap.size, 4, none⟩ (.int .i64 q4)).setCell ⟨u.heap.size, 5, none⟩ (.int .i64 q5)).alloc (.cells #[.int .i64 q0, .int .i64 q1, .int .i64 q2, .int .i64 q3, .int .i64 q4, .int .i64 q5] 34)).heap.size := Nat.le_trans (by simp [World.setCell]; exact Nat.le_trans hAl b3'.size) bN.size
                    have eN : Below (w.heap.size + 1) W0 (((((((u3.setCell ⟨u.heap.size, 0, none⟩ (.int .i64 q0)).setCell ⟨u.heap.size, 1, none⟩ (.int .i64 q1)).setCell ⟨u.heap.size, 2, none⟩ (.int .i64 q2)).setCell ⟨u.heap.size, 3, none⟩ (.int .i64 q3)).setCell ⟨u.heap.size, 4, none⟩ (.int .i64 q4)).setCell ⟨u.heap.size, 5, none⟩ (.int .i64 q5)).alloc (.cells #[.int .i64 q0, .int .i64 q1, .int .i64 q2, .int .i64 q3, .int .i64 q4, .int .i64 q5] 34)) := eS.trans (bN.mono (by simp [World.setCell]; exact Nat.le_trans hAl b3'.size))
                    go_wp2_with (at_builtin; refine wpList_append_OwnC rfl _ _ _ rfl i0 (.agg zerosFact.toArray) 48 Tryz.underlying25 hi0 hz0 hz1 hz2 rfl (by decide) rfl oN _ _ _ _ rfl rN (FactD.one ⟨q0, q1, q2, q3, q4, q5⟩) (by (try simp only [List.length_append, List.length_cons, List.length_nil]); omega) (by decide) lN ?_; intro v' w' ho hb')

                    refine ⟨⟨k + 1, true, P ++ [⟨q0, q1, q2, q3, q4, q5⟩], by omega, by go_num, rfl, ?_, ?_, ?_⟩, by simp only [intOf]; omega⟩
                    · exact OwnC.joined (f := FactD.cells) (ys := [⟨q0, q1, q2, q3, q4, q5⟩]) ho
                    · unfold Hid
                      rw [HS.out, show mergeF f x = ⟨q0, q1, q2, q3, q4, q5⟩ by unfold mergeF; rw [HSM.out, HNW.out]; exact HFE.out]
                      first | (simp; done) | (simp; exact HFE.out)
                    · exact eN.trans hb'
            · go_wp2_with fail
              refine wp_region_held_drew (S := fun w' => ((w'.cell? ⟨w.heap.size, 0, none⟩ = some (.int .i64 q0) ∧ w'.cell? ⟨w.heap.size, 1, none⟩ = some (.int .i64 q1) ∧ w'.cell? ⟨w.heap.size, 2, none⟩ = some (.int .i64 q2) ∧ w'.cell? ⟨w.heap.size, 3, none⟩ = some (.int .i64 q3) ∧ w'.cell? ⟨w.heap.size, 4, none⟩ = some (.int .i64 q4) ∧ w'.cell? ⟨w.heap.size, 5, none⟩ = some (.int .i64 q5)) ∧ (w'.cell? ⟨b, off + k * 6, none⟩ = some (.int .i64 p0) ∧ w'.cell? ⟨b, off + k * 6 + 1, none⟩ = some (.int .i64 p1) ∧ w'.cell? ⟨b, off + k * 6 + 2, none⟩ = some (.int .i64 p2) ∧ w'.cell? ⟨b, off + k * 6 + 3, none⟩ = some (.int .i64 p3) ∧ w'.cell? ⟨b, off + k * 6 + 4, none⟩ = some (.int .i64 p4) ∧ w'.cell? ⟨b, off + k * 6 + 5, none⟩ = some (.int .i64 p5))) ∧ Below (w.heap.size + 1) W0 w') (by kernel_rfl) (HC.out _ hb.drew) (fun hHeld => ?_)
              refine wpAnyH_take (i := 0) (oi := ⟨some 27, _, _, _, _, _⟩) (v := ?_) rfl (by kernel_rfl) (by kernel_rfl) (by kernel_rfl) (fun _ _ _ h => h) (Or.inl ⟨by rfl, ?_⟩) (by assumption) ?_
              rotate_left
              · intro w hSw; (try dsimp only at hSw); go_simp <;> (with_reducible rfl)
              (try simp only [Act.put, List.setIfInBounds_toArray, List.set_cons_zero, List.set_cons_succ])
              refine wpAnyH_take (i := 1) (oi := ⟨some 28, _, _, _, _, _⟩) (v := ?_) rfl (by kernel_rfl) (by kernel_rfl) (by kernel_rfl) (fun _ _ _ h => h) (Or.inl ⟨by rfl, ?_⟩) (by assumption) ?_
              rotate_left
              · intro w hSw; (try dsimp only at hSw); go_simp <;> (with_reducible rfl)
              (try simp only [Act.put, List.setIfInBounds_toArray, List.set_cons_zero, List.set_cons_succ])
              refine wpAnyH_take (i := 2) (oi := ⟨some 29, _, _, _, _, _⟩) (v := ?_) rfl (by kernel_rfl) (by kernel_rfl) (by kernel_rfl) (fun _ _ _ h => h) (Or.inl ⟨by rfl, ?_⟩) (by assumption) ?_
              rotate_left
              · intro w hSw; (try dsimp only at hSw); go_simp <;> (with_reducible rfl)
              (try simp only [Act.put, List.setIfInBounds_toArray, List.set_cons_zero, List.set_cons_succ])
              refine wpAnyH_take (i := 3) (oi := ⟨some 30, _, _, _, _, _⟩) (v := ?_) rfl (by kernel_rfl) (by kernel_rfl) (by kernel_rfl) (fun _ _ _ h => h) (Or.inl ⟨by rfl, ?_⟩) (by assumption) ?_
              rotate_left
              · intro w hSw; (try dsimp only at hSw); go_simp <;> (with_reducible rfl)
              (try simp only [Act.put, List.setIfInBounds_toArray, List.set_cons_zero, List.set_cons_succ])
              refine wpAnyH_take (i := 4) (oi := ⟨some 31, _, _, _, _, _⟩) (v := ?_) rfl (by kernel_rfl) (by kernel_rfl) (by kernel_rfl) (fun _ _ _ h => h) (Or.inl ⟨by rfl, ?_⟩) (by assumption) ?_
              rotate_left
              · intro w hSw; (try dsimp only at hSw); go_simp <;> (with_reducible rfl)
              (try simp only [Act.put, List.setIfInBounds_toArray, List.set_cons_zero, List.set_cons_succ])
              refine wpAnyH_take (i := 5) (oi := ⟨some 32, _, _, _, _, _⟩) (v := ?_) rfl (by kernel_rfl) (by kernel_rfl) (by kernel_rfl) (fun _ _ _ h => h) (Or.inl ⟨by rfl, ?_⟩) (by assumption) ?_
              rotate_left
              · intro w hSw; (try dsimp only at hSw); go_simp <;> (with_reducible rfl)
              (try simp only [Act.put, List.setIfInBounds_toArray, List.set_cons_zero, List.set_cons_succ])
              refine wpAnyH_take (i := 6) (oi := ⟨some 33, _, _, _, _, _⟩) (v := ?_) rfl (by kernel_rfl) (by kernel_rfl) (by kernel_rfl) (fun _ _ _ h => h) (Or.inl ⟨by rfl, ?_⟩) (by assumption) ?_
              rotate_left
              · intro w hSw; (try dsimp only at hSw); go_simp <;> (with_reducible rfl)
              (try simp only [Act.put, List.setIfInBounds_toArray, List.set_cons_zero, List.set_cons_succ])
              refine wpAnyH_take (i := 7) (oi := ⟨some 34, _, _, _, _, _⟩) (v := ?_) rfl (by kernel_rfl) (by kernel_rfl) (by kernel_rfl) (fun _ _ _ h => h) (Or.inl ⟨by rfl, ?_⟩) (by assumption) ?_
              rotate_left
              · intro w hSw; (try dsimp only at hSw); go_simp <;> (with_reducible rfl)
              (try simp only [Act.put, List.setIfInBounds_toArray, List.set_cons_zero, List.set_cons_succ])
              refine wpAnyH_ready (rs := [8]) (by kernel_rfl) (by simp) ?_
              refine AllReadyH.cons (o := ⟨some 35, _, _, _, _, _⟩) rfl (fun K hK => ?_) AllReadyH.nil
              go_simp
              (with_reducible refine (HB.out _).mono ?_)
              rintro e u ⟨rfl, b1'⟩
              have bw : Below wr.heap.size wr u := ⟨b1'.os, b1'.tape, b1'.output, b1'.size, b1'.block⟩
              have eu := hb.trans (bw.mono (Nat.le_trans (Nat.le_of_eq hsz.symm) hb.size))
              refine hK.out _ _ (HC.out _ eu) (fun hHeld2 => ?_)
              clear hK K
              (try simp only [Act.put, List.setIfInBounds_toArray, List.set_cons_zero, List.set_cons_succ])
              refine wpAnyH_take (i := 9) (oi := ⟨some 36, _, _, _, _, _⟩) (v := ?_) rfl (by kernel_rfl) (by kernel_rfl) (by kernel_rfl) (fun _ _ _ h => h) (Or.inl ⟨by rfl, ?_⟩) (by assumption) ?_
              rotate_left
              · intro w hSw; (try dsimp only at hSw); go_simp <;> (with_reducible rfl)
              (try simp only [Act.put, List.setIfInBounds_toArray, List.set_cons_zero, List.set_cons_succ])
              refine wpAnyH_done (by kernel_rfl) ?_ _
              have ou := (HO.out.below bw (Nat.le_refl _)).wide (Nat.le_refl _) bw.size
              have hu : w.heap.size + 1 ≤ u.heap.size := Nat.le_trans (Nat.le_of_eq hsz.symm) eu.size
              have bP : Below u.heap.size u (u.alloc (.cells #[.int .i64 q0, .int .i64 q1, .int .i64 q2, .int .i64 q3, .int .i64 q4, .int .i64 q5] 34)) := (Below.refl _ _).alloc (Nat.le_refl _) _
              have oP := ou.below bP (Nat.le_refl _)
              have rP := rowC_one 6 34 u [.int .i64 q0, .int .i64 q1, .int .i64 q2, .int .i64 q3, .int .i64 q4, .int .i64 q5] rfl
              have lP := Nat.le_trans hu bP.size
              have eP := eu.trans (bP.mono hu)
              obtain ⟨⟨⟨f0, f1, f2, f3, f4, f5⟩, ⟨x0, x1, x2, x3, x4, x5⟩⟩, _⟩ := HC.out _ eu
              go_upto_region 10 with (at_builtin; refine wpList_append_OwnC rfl _ _ _ rfl i0 (.agg zerosFact.toArray) 48 Tryz.underlying25 hi0 hz0 hz1 hz2 rfl (by decide) rfl oP _ _ _ _ rfl rP (FactD.one ⟨q0, q1, q2, q3, q4, q5⟩) (by (try simp only [List.length_append, List.length_cons, List.length_nil]); omega) (by decide) lP ?_; intro v5 u5 ho5 hb5)
              have eW := eP.trans hb5
              have oW := OwnC.joined (f := FactD.cells) (ys := [⟨q0, q1, q2, q3, q4, q5⟩]) ho5
              clear f0 f1 f2 f3 f4 f5 x0 x1 x2 x3 x4 x5

              have hW : w.heap.size + 1 ≤ u5.heap.size := Nat.le_trans (Nat.le_of_eq hsz.symm) eW.size
              have eA := eW.alloc hW (.cells #[.int .i64 p0, .int .i64 p1, .int .i64 p2, .int .i64 p3, .int .i64 p4, .int .i64 p5] 34)
              have bA : Below u5.heap.size u5 (u5.alloc (.cells #[.int .i64 p0, .int .i64 p1, .int .i64 p2, .int .i64 p3, .int .i64 p4, .int .i64 p5] 34)) := (Below.refl _ _).alloc (Nat.le_refl _) _
              have oA := oW.below bA (Nat.le_refl _)
              obtain ⟨⟨⟨f0, f1, f2, f3, f4, f5⟩, ⟨x0, x1, x2, x3, x4, x5⟩⟩, _⟩ := HC.out _ eA
              obtain ⟨⟨_, ⟨y0, y1, y2, y3, y4, y5⟩⟩, _⟩ := HC.out _ eW
              go_wp2_with fail
              refine (HM.out _).mono ?_
              rintro e u3 ⟨rfl, b3⟩
              have hM : u5.heap.size < (u5.alloc (.cells #[.int .i64 p0, .int .i64 p1, .int .i64 p2, .int .i64 p3, .int .i64 p4, .int .i64 p5] 34)).heap.size := by rw [size_alloc]; exact Nat.lt_succ_self _
              have hAl := Nat.le_trans hW (Nat.le_of_lt hM)
              have b3' : Below (u5.alloc (.cells #[.int .i64 p0, .int .i64 p1, .int .i64 p2, .int .i64 p3, .int .i64 p4, .int .i64 p5] 34)).heap.size (u5.alloc (.cells #[.int .i64 p0, .int .i64 p1, .int .i64 p2, .int .i64 p3, .int .i64 p4, .int .i64 p5] 34)) u3 := ⟨b3.os, b3.tape, b3.output, b3.size, b3.block⟩
              have e3 := eA.trans (b3'.mono hAl)
              have o3 := oA.below b3' (Nat.le_of_lt hM)
              have hM3 := Nat.lt_of_lt_of_le hM b3'.size
              have bk := blk_keep (blk_new u5 34 #[.int .i64 p0, .int .i64 p1, .int .i64 p2, .int .i64 p3, .int .i64 p4, .int .i64 p5]) b3' hM
              have HO3 := Lib.hid o3
              have HBK := Lib.hid bk
              clear f0 f1 f2 f3 f4 f5 x0 x1 x2 x3 x4 x5 y0 y1 y2 y3 y4 y5 oA o3 bk
              obtain ⟨⟨⟨f0, f1, f2, f3, f4, f5⟩, _⟩, _⟩ := HC.out _ e3
              have z0 := blk_cell HBK.out 0 rfl
              have z1 := blk_cell HBK.out 1 rfl
              have z2 := blk_cell HBK.out 2 rfl
              have z3 := blk_cell HBK.out 3 rfl
              have z4 := blk_cell HBK.out 4 rfl
              have z5 := blk_cell HBK.out 5 rfl
              cases sm
              · have bN : Below u3.heap.size u3 (u3.alloc (.cells #[.int .i64 p0, .int .i64 p1, .int .i64 p2, .int .i64 p3, .int .i64 p4, .int .i64 p5] 34)) := (Below.refl _ _).alloc (Nat.le_refl _) _
                have oN := HO3.out.below bN (Nat.le_of_lt hM3)
                have rN := rowC_one 6 34 u3 [.int .i64 p0, .int .i64 p1, .int .i64 p2, .int .i64 p3, .int .i64 p4, .int .i64 p5] rfl
                have lN := Nat.le_trans (Nat.le_trans hAl b3'.size) bN.size
                have eN := e3.trans (bN.mono (Nat.le_trans hAl b3'.size))
                go_wp2_with (at_builtin; refine wpList_append_OwnC rfl _ _ _ rfl i0 (.agg zerosFact.toArray) 48 Tryz.underlying25 hi0 hz0 hz1 hz2 rfl (by decide) rfl oN _ _ _ _ rfl rN (FactD.one ⟨p0, p1, p2, p3, p4, p5⟩) (by (try simp only [List.length_append, List.length_cons, List.length_nil]); omega) (by decide) lN ?_; intro v' w' ho hb')

                refine ⟨⟨k + 1, true, (P ++ [⟨q0, q1, q2, q3, q4, q5⟩]) ++ [⟨p0, p1, p2, p3, p4, p5⟩], by omega, by go_num, rfl, ?_, ?_, ?_⟩, by simp only [intOf]; omega⟩
                · exact OwnC.joined (f := FactD.cells) (ys := [⟨p0, p1, p2, p3, p4, p5⟩]) ho
                · unfold Hid
                  rw [HS.out, show mergeF f x = ⟨p0, p1, p2, p3, p4, p5⟩ by unfold mergeF; rw [HSM.out]; exact HXE.out]
                  first | (simp; done) | (simp; exact HFE.out)
                · exact eN.trans hb'
              · exact absurd HSM.out (by have := before_three f x; rw [HBF.out] at this; simp_all)
          · go_wp2_with fail
            refine wp_region_held_drew (S := fun w' => Below (w.heap.size + 1) W0 w') (by kernel_rfl) (hb.drew) (fun hHeld => ?_)
            refine wpAnyH_take (i := 0) (oi := ⟨some 27, _, _, _, _, _⟩) (v := ?_) rfl (by kernel_rfl) (by kernel_rfl) (by kernel_rfl) (fun _ _ _ h => h) (Or.inl ⟨by rfl, ?_⟩) (by assumption) ?_
            rotate_left
            · intro w hSw; (try dsimp only at hSw); go_simp <;> (with_reducible rfl)
            (try simp only [Act.put, List.setIfInBounds_toArray, List.set_cons_zero, List.set_cons_succ])
            refine wpAnyH_take (i := 1) (oi := ⟨some 28, _, _, _, _, _⟩) (v := ?_) rfl (by kernel_rfl) (by kernel_rfl) (by kernel_rfl) (fun _ _ _ h => h) (Or.inl ⟨by rfl, ?_⟩) (by assumption) ?_
            rotate_left
            · intro w hSw; (try dsimp only at hSw); go_simp <;> (with_reducible rfl)
            (try simp only [Act.put, List.setIfInBounds_toArray, List.set_cons_zero, List.set_cons_succ])
            refine wpAnyH_take (i := 2) (oi := ⟨some 29, _, _, _, _, _⟩) (v := ?_) rfl (by kernel_rfl) (by kernel_rfl) (by kernel_rfl) (fun _ _ _ h => h) (Or.inl ⟨by rfl, ?_⟩) (by assumption) ?_
            rotate_left
            · intro w hSw; (try dsimp only at hSw); go_simp <;> (with_reducible rfl)
            (try simp only [Act.put, List.setIfInBounds_toArray, List.set_cons_zero, List.set_cons_succ])
            refine wpAnyH_take (i := 3) (oi := ⟨some 30, _, _, _, _, _⟩) (v := undef) rfl (by kernel_rfl) (by kernel_rfl) (by kernel_rfl) (fun _ _ _ h => h) (.inr ⟨by rfl, rfl⟩) (by assumption) ?_
            (try simp only [Act.put, List.setIfInBounds_toArray, List.set_cons_zero, List.set_cons_succ])
            refine wpAnyH_take (i := 4) (oi := ⟨some 31, _, _, _, _, _⟩) (v := undef) rfl (by kernel_rfl) (by kernel_rfl) (by kernel_rfl) (fun _ _ _ h => h) (.inr ⟨by rfl, rfl⟩) (by assumption) ?_
            (try simp only [Act.put, List.setIfInBounds_toArray, List.set_cons_zero, List.set_cons_succ])
            refine wpAnyH_take (i := 5) (oi := ⟨some 32, _, _, _, _, _⟩) (v := undef) rfl (by kernel_rfl) (by kernel_rfl) (by kernel_rfl) (fun _ _ _ h => h) (.inr ⟨by rfl, rfl⟩) (by assumption) ?_
            (try simp only [Act.put, List.setIfInBounds_toArray, List.set_cons_zero, List.set_cons_succ])
            refine wpAnyH_take (i := 6) (oi := ⟨some 33, _, _, _, _, _⟩) (v := undef) rfl (by kernel_rfl) (by kernel_rfl) (by kernel_rfl) (fun _ _ _ h => h) (.inr ⟨by rfl, rfl⟩) (by assumption) ?_
            (try simp only [Act.put, List.setIfInBounds_toArray, List.set_cons_zero, List.set_cons_succ])
            refine wpAnyH_take (i := 7) (oi := ⟨some 34, _, _, _, _, _⟩) (v := undef) rfl (by kernel_rfl) (by kernel_rfl) (by kernel_rfl) (fun _ _ _ h => h) (.inr ⟨by rfl, rfl⟩) (by assumption) ?_
            (try simp only [Act.put, List.setIfInBounds_toArray, List.set_cons_zero, List.set_cons_succ])
            refine wpAnyH_take (i := 8) (oi := ⟨some 35, _, _, _, _, _⟩) (v := undef) rfl (by kernel_rfl) (by kernel_rfl) (by kernel_rfl) (fun _ _ _ h => h) (.inr ⟨by rfl, rfl⟩) (by assumption) ?_
            (try simp only [Act.put, List.setIfInBounds_toArray, List.set_cons_zero, List.set_cons_succ])
            refine wpAnyH_take (i := 9) (oi := ⟨some 36, _, _, _, _, _⟩) (v := ?_) rfl (by kernel_rfl) (by kernel_rfl) (by kernel_rfl) (fun _ _ _ h => h) (Or.inl ⟨by rfl, ?_⟩) (by assumption) ?_
            rotate_left
            · intro w hSw; (try dsimp only at hSw); go_simp <;> (with_reducible rfl)
            (try simp only [Act.put, List.setIfInBounds_toArray, List.set_cons_zero, List.set_cons_succ])
            refine wpAnyH_done (by kernel_rfl) ?_ _
            have eW := hb

            have hW : w.heap.size + 1 ≤ wr.heap.size := Nat.le_trans (Nat.le_of_eq hsz.symm) eW.size
            have eA := eW.alloc hW (.cells #[.int .i64 p0, .int .i64 p1, .int .i64 p2, .int .i64 p3, .int .i64 p4, .int .i64 p5] 34)
            have bA : Below wr.heap.size wr (wr.alloc (.cells #[.int .i64 p0, .int .i64 p1, .int .i64 p2, .int .i64 p3, .int .i64 p4, .int .i64 p5] 34)) := (Below.refl _ _).alloc (Nat.le_refl _) _
            have oA := HO.out.below bA (Nat.le_refl _)
            obtain ⟨⟨⟨f0, f1, f2, f3, f4, f5⟩, ⟨x0, x1, x2, x3, x4, x5⟩⟩, _⟩ := HC.out _ eA
            obtain ⟨⟨_, ⟨y0, y1, y2, y3, y4, y5⟩⟩, _⟩ := HC.out _ eW
            go_wp2_with fail
            refine (HM.out _).mono ?_
            rintro e u3 ⟨rfl, b3⟩
            have hM : wr.heap.size < (wr.alloc (.cells #[.int .i64 p0, .int .i64 p1, .int .i64 p2, .int .i64 p3, .int .i64 p4, .int .i64 p5] 34)).heap.size := by rw [size_alloc]; exact Nat.lt_succ_self _
            have hAl := Nat.le_trans hW (Nat.le_of_lt hM)
            have b3' : Below (wr.alloc (.cells #[.int .i64 p0, .int .i64 p1, .int .i64 p2, .int .i64 p3, .int .i64 p4, .int .i64 p5] 34)).heap.size (wr.alloc (.cells #[.int .i64 p0, .int .i64 p1, .int .i64 p2, .int .i64 p3, .int .i64 p4, .int .i64 p5] 34)) u3 := ⟨b3.os, b3.tape, b3.output, b3.size, b3.block⟩
            have e3 := eA.trans (b3'.mono hAl)
            have o3 := oA.below b3' (Nat.le_of_lt hM)
            have hM3 := Nat.lt_of_lt_of_le hM b3'.size
            have bk := blk_keep (blk_new wr 34 #[.int .i64 p0, .int .i64 p1, .int .i64 p2, .int .i64 p3, .int .i64 p4, .int .i64 p5]) b3' hM
            have HO3 := Lib.hid o3
            have HBK := Lib.hid bk
            clear f0 f1 f2 f3 f4 f5 x0 x1 x2 x3 x4 x5 y0 y1 y2 y3 y4 y5 oA o3 bk
            obtain ⟨⟨⟨f0, f1, f2, f3, f4, f5⟩, _⟩, _⟩ := HC.out _ e3
            have z0 := blk_cell HBK.out 0 rfl
            have z1 := blk_cell HBK.out 1 rfl
            have z2 := blk_cell HBK.out 2 rfl
            have z3 := blk_cell HBK.out 3 rfl
            have z4 := blk_cell HBK.out 4 rfl
            have z5 := blk_cell HBK.out 5 rfl
            cases sm
            · have bN : Below u3.heap.size u3 (u3.alloc (.cells #[.int .i64 p0, .int .i64 p1, .int .i64 p2, .int .i64 p3, .int .i64 p4, .int .i64 p5] 34)) := (Below.refl _ _).alloc (Nat.le_refl _) _
              have oN := HO3.out.below bN (Nat.le_of_lt hM3)
              have rN := rowC_one 6 34 u3 [.int .i64 p0, .int .i64 p1, .int .i64 p2, .int .i64 p3, .int .i64 p4, .int .i64 p5] rfl
              have lN := Nat.le_trans (Nat.le_trans hAl b3'.size) bN.size
              have eN := e3.trans (bN.mono (Nat.le_trans hAl b3'.size))
              go_wp2_with (at_builtin; refine wpList_append_OwnC rfl _ _ _ rfl i0 (.agg zerosFact.toArray) 48 Tryz.underlying25 hi0 hz0 hz1 hz2 rfl (by decide) rfl oN _ _ _ _ rfl rN (FactD.one ⟨p0, p1, p2, p3, p4, p5⟩) (by (try simp only [List.length_append, List.length_cons, List.length_nil]); omega) (by decide) lN ?_; intro v' w' ho hb')

              refine ⟨⟨k + 1, true, P ++ [⟨p0, p1, p2, p3, p4, p5⟩], by omega, by go_num, rfl, ?_, ?_, ?_⟩, by simp only [intOf]; omega⟩
              · exact OwnC.joined (f := FactD.cells) (ys := [⟨p0, p1, p2, p3, p4, p5⟩]) ho
              · unfold Hid
                rw [HS.out, show mergeF f x = ⟨p0, p1, p2, p3, p4, p5⟩ by unfold mergeF; rw [HSM.out]; exact HXE.out]
                first | (simp; done) | (simp; exact HFE.out)
              · exact eN.trans hb'
            · rcases hnw : newerB f x with _ | _
              · have hd : decide (q4 > p4) = false ∧ ((q4 == p4) = false ∨ (q4 == p4) = true ∧ decide (q5 > p5) = false) := by
                  rw [HFE.out, HXE.out] at hnw
                  simp only [newerB, decide_eq_false_iff_not, beq_eq_false_iff_ne, beq_iff_eq, ne_eq] at hnw ⊢
                  omega
                have HNW := Lib.hid hnw
                clear hnw
                rcases hd with ⟨n0, n1 | ⟨n1, n2⟩⟩
                · have bN : Below u3.heap.size u3 (u3.alloc (.cells #[.int .i64 p0, .int .i64 p1, .int .i64 p2, .int .i64 p3, .int .i64 p4, .int .i64 p5] 34)) := (Below.refl _ _).alloc (Nat.le_refl _) _
                  have oN := HO3.out.below bN (Nat.le_of_lt hM3)
                  have rN := rowC_one 6 34 u3 [.int .i64 p0, .int .i64 p1, .int .i64 p2, .int .i64 p3, .int .i64 p4, .int .i64 p5] rfl
                  have lN := Nat.le_trans (Nat.le_trans hAl b3'.size) bN.size
                  have eN := e3.trans (bN.mono (Nat.le_trans hAl b3'.size))
                  go_wp2_with (at_builtin; refine wpList_append_OwnC rfl _ _ _ rfl i0 (.agg zerosFact.toArray) 48 Tryz.underlying25 hi0 hz0 hz1 hz2 rfl (by decide) rfl oN _ _ _ _ rfl rN (FactD.one ⟨p0, p1, p2, p3, p4, p5⟩) (by (try simp only [List.length_append, List.length_cons, List.length_nil]); omega) (by decide) lN ?_; intro v' w' ho hb')

                  refine ⟨⟨k + 1, true, P ++ [⟨p0, p1, p2, p3, p4, p5⟩], by omega, by go_num, rfl, ?_, ?_, ?_⟩, by simp only [intOf]; omega⟩
                  · exact OwnC.joined (f := FactD.cells) (ys := [⟨p0, p1, p2, p3, p4, p5⟩]) ho
                  · unfold Hid
                    rw [HS.out, show mergeF f x = ⟨p0, p1, p2, p3, p4, p5⟩ by unfold mergeF; rw [HSM.out, HNW.out]; exact HXE.out]
                    first | (simp; done) | (simp; exact HFE.out)
                  · exact eN.trans hb'
                · have n1' : q4 = p4 := by simpa using n1
                  subst n1'

                  have bN : Below u3.heap.size u3 (u3.alloc (.cells #[.int .i64 p0, .int .i64 p1, .int .i64 p2, .int .i64 p3, .int .i64 q4, .int .i64 p5] 34)) := (Below.refl _ _).alloc (Nat.le_refl _) _
                  have oN := HO3.out.below bN (Nat.le_of_lt hM3)
                  have rN := rowC_one 6 34 u3 [.int .i64 p0, .int .i64 p1, .int .i64 p2, .int .i64 p3, .int .i64 q4, .int .i64 p5] rfl
                  have lN := Nat.le_trans (Nat.le_trans hAl b3'.size) bN.size
                  have eN := e3.trans (bN.mono (Nat.le_trans hAl b3'.size))
                  go_wp2_with (at_builtin; refine wpList_append_OwnC rfl _ _ _ rfl i0 (.agg zerosFact.toArray) 48 Tryz.underlying25 hi0 hz0 hz1 hz2 rfl (by decide) rfl oN _ _ _ _ rfl rN (FactD.one ⟨p0, p1, p2, p3, q4, p5⟩) (by (try simp only [List.length_append, List.length_cons, List.length_nil]); omega) (by decide) lN ?_; intro v' w' ho hb')

                  refine ⟨⟨k + 1, true, P ++ [⟨p0, p1, p2, p3, q4, p5⟩], by omega, by go_num, rfl, ?_, ?_, ?_⟩, by simp only [intOf]; omega⟩
                  · exact OwnC.joined (f := FactD.cells) (ys := [⟨p0, p1, p2, p3, q4, p5⟩]) ho
                  · unfold Hid
                    rw [HS.out, show mergeF f x = ⟨p0, p1, p2, p3, q4, p5⟩ by unfold mergeF; rw [HSM.out, HNW.out]; exact HXE.out]
                    first | (simp; done) | (simp; exact HFE.out)
                  · exact eN.trans hb'
              · have hd : decide (q4 > p4) = true ∨ decide (q4 > p4) = false ∧ (q4 == p4) = true ∧ decide (q5 > p5) = true := by
                  rw [HFE.out, HXE.out] at hnw
                  simp only [newerB, decide_eq_false_iff_not, beq_iff_eq, decide_eq_true_eq] at hnw ⊢
                  omega
                have HNW := Lib.hid hnw
                clear hnw
                rcases hd with n0 | ⟨n0, n1, n2⟩
                · have g0 : u3.frozen? ⟨wr.heap.size, 0, none⟩ = false := blk_frozen HBK.out 0
                  have g1 : u3.frozen? ⟨wr.heap.size, 1, none⟩ = false := blk_frozen HBK.out 1
                  have g2 : u3.frozen? ⟨wr.heap.size, 2, none⟩ = false := blk_frozen HBK.out 2
                  have g3 : u3.frozen? ⟨wr.heap.size, 3, none⟩ = false := blk_frozen HBK.out 3
                  have g4 : u3.frozen? ⟨wr.heap.size, 4, none⟩ = false := blk_frozen HBK.out 4
                  have g5 : u3.frozen? ⟨wr.heap.size, 5, none⟩ = false := blk_frozen HBK.out 5
                  have oS := OwnC.setFar (g := wr.heap.size) [.int .i64 q0, .int .i64 q1, .int .i64 q2, .int .i64 q3, .int .i64 q4, .int .i64 q5] 0 HO3.out (Nat.le_refl _)
                  have eS := Below.setMany (g := wr.heap.size) hW [.int .i64 q0, .int .i64 q1, .int .i64 q2, .int .i64 q3, .int .i64 q4, .int .i64 q5] 0 e3
                  simp only [wsetMany, Nat.zero_add, Nat.reduceAdd] at oS eS
                  have bN : Below ((((((u3.setCell ⟨wr.heap.size, 0, none⟩ (.int .i64 q0)).setCell ⟨wr.heap.size, 1, none⟩ (.int .i64 q1)).setCell ⟨wr.heap.size, 2, none⟩ (.int .i64 q2)).setCell ⟨wr.heap.size, 3, none⟩ (.int .i64 q3)).setCell ⟨wr.heap.size, 4, none⟩ (.int .i64 q4)).setCell ⟨wr.heap.size, 5, none⟩ (.int .i64 q5)).heap.size ((((((u3.setCell ⟨wr.heap.size, 0, none⟩ (.int .i64 q0)).setCell ⟨wr.heap.size, 1, none⟩ (.int .i64 q1)).setCell ⟨wr.heap.size, 2, none⟩ (.int .i64 q2)).setCell ⟨wr.heap.size, 3, none⟩ (.int .i64 q3)).setCell ⟨wr.heap.size, 4, none⟩ (.int .i64 q4)).setCell ⟨wr.heap.size, 5, none⟩ (.int .i64 q5)) (((((((u3.setCell ⟨wr.heap.size, 0, none⟩ (.int .i64 q0)).setCell ⟨wr.heap.size, 1, none⟩ (.int .i64 q1)).setCell ⟨wr.heap.size, 2, none⟩ (.int .i64 q2)).setCell ⟨wr.heap.size, 3, none⟩ (.int .i64 q3)).setCell ⟨wr.heap.size, 4, none⟩ (.int .i64 q4)).setCell ⟨wr.heap.size, 5, none⟩ (.int .i64 q5)).alloc (.cells #[.int .i64 q0, .int .i64 q1, .int .i64 q2, .int .i64 q3, .int .i64 q4, .int .i64 q5] 34)) := (Below.refl _ _).alloc (Nat.le_refl _) _
                  have oN : OwnFact (((((((u3.setCell ⟨wr.heap.size, 0, none⟩ (.int .i64 q0)).setCell ⟨wr.heap.size, 1, none⟩ (.int .i64 q1)).setCell ⟨wr.heap.size, 2, none⟩ (.int .i64 q2)).setCell ⟨wr.heap.size, 3, none⟩ (.int .i64 q3)).setCell ⟨wr.heap.size, 4, none⟩ (.int .i64 q4)).setCell ⟨wr.heap.size, 5, none⟩ (.int .i64 q5)).alloc (.cells #[.int .i64 q0, .int .i64 q1, .int .i64 q2, .int .i64 q3, .int .i64 q4, .int .i64 q5] 34)) (w.heap.size + 1) wr.heap.size _ _ := oS.below bN (by simp [World.setCell]; exact Nat.le_of_lt hM3)
                  have rN := rowC_one 6 34 ((((((u3.setCell ⟨wr.heap.size, 0, none⟩ (.int .i64 q0)).setCell ⟨wr.heap.size, 1, none⟩ (.int .i64 q1)).setCell ⟨wr.heap.size, 2, none⟩ (.int .i64 q2)).setCell ⟨wr.heap.size, 3, none⟩ (.int .i64 q3)).setCell ⟨wr.heap.size, 4, none⟩ (.int .i64 q4)).setCell ⟨wr.heap.size, 5, none⟩ (.int .i64 q5)) [.int .i64 q0, .int .i64 q1, .int .i64 q2, .int .i64 q3, .int .i64 q4, .int .i64 q5] rfl
                  have hsz4 : ((((((u3.setCell ⟨wr.heap.size, 0, none⟩ (.int .i64 q0)).setCell ⟨wr.heap.size, 1, none⟩ (.int .i64 q1)).setCell ⟨wr.heap.size, 2, none⟩ (.int .i64 q2)).setCell ⟨wr.heap.size, 3, none⟩ (.int .i64 q3)).setCell ⟨wr.heap.size, 4, none⟩ (.int .i64 q4)).setCell ⟨wr.heap.size, 5, none⟩ (.int .i64 q5)).heap.size = u3.heap.size := by simp [World.setCell]
                  rw [hsz4] at rN
                  clear hsz4
                  have lN : w.heap.size + 1 ≤ (((((((u3.setCell ⟨wr.heap.size, 0, none⟩ (.int .i64 q0)).setCell ⟨wr.heap.size, 1, none⟩ (.int .i64 q1)).setCell ⟨wr.heap.size, 2, none⟩ (.int .i64 q2)).setCell ⟨wr.heap.size, 3, none⟩ (.int .i64 q3)).setCell ⟨wr.heap.size, 4, none⟩ (.int .i64 q4)).setCell ⟨wr.heap.size, 5, none⟩ (.int .i64 q5)).alloc (.cells #[.int .i64 q0, .int .i64 q1, .int .i64 q2, .int .i64 q3, .int .i64 q4, .int .i64 q5] 34)).heap.size := Nat.le_trans (by simp [World.setCell]; exact Nat.le_trans hAl b3'.size) bN.size
                  have eN : Below (w.heap.size + 1) W0 (((((((u3.setCell ⟨wr.heap.size, 0, none⟩ (.int .i64 q0)).setCell ⟨wr.heap.size, 1, none⟩ (.int .i64 q1)).setCell ⟨wr.heap.size, 2, none⟩ (.int .i64 q2)).setCell ⟨wr.heap.size, 3, none⟩ (.int .i64 q3)).setCell ⟨wr.heap.size, 4, none⟩ (.int .i64 q4)).setCell ⟨wr.heap.size, 5, none⟩ (.int .i64 q5)).alloc (.cells #[.int .i64 q0, .int .i64 q1, .int .i64 q2, .int .i64 q3, .int .i64 q4, .int .i64 q5] 34)) := eS.trans (bN.mono (by simp [World.setCell]; exact Nat.le_trans hAl b3'.size))
                  go_wp2_with (at_builtin; refine wpList_append_OwnC rfl _ _ _ rfl i0 (.agg zerosFact.toArray) 48 Tryz.underlying25 hi0 hz0 hz1 hz2 rfl (by decide) rfl oN _ _ _ _ rfl rN (FactD.one ⟨q0, q1, q2, q3, q4, q5⟩) (by (try simp only [List.length_append, List.length_cons, List.length_nil]); omega) (by decide) lN ?_; intro v' w' ho hb')

                  refine ⟨⟨k + 1, true, P ++ [⟨q0, q1, q2, q3, q4, q5⟩], by omega, by go_num, rfl, ?_, ?_, ?_⟩, by simp only [intOf]; omega⟩
                  · exact OwnC.joined (f := FactD.cells) (ys := [⟨q0, q1, q2, q3, q4, q5⟩]) ho
                  · unfold Hid
                    rw [HS.out, show mergeF f x = ⟨q0, q1, q2, q3, q4, q5⟩ by unfold mergeF; rw [HSM.out, HNW.out]; exact HFE.out]
                    first | (simp; done) | (simp; exact HFE.out)
                  · exact eN.trans hb'
                · have n1' : q4 = p4 := by simpa using n1
                  subst n1'

                  have g0 : u3.frozen? ⟨wr.heap.size, 0, none⟩ = false := blk_frozen HBK.out 0
                  have g1 : u3.frozen? ⟨wr.heap.size, 1, none⟩ = false := blk_frozen HBK.out 1
                  have g2 : u3.frozen? ⟨wr.heap.size, 2, none⟩ = false := blk_frozen HBK.out 2
                  have g3 : u3.frozen? ⟨wr.heap.size, 3, none⟩ = false := blk_frozen HBK.out 3
                  have g4 : u3.frozen? ⟨wr.heap.size, 4, none⟩ = false := blk_frozen HBK.out 4
                  have g5 : u3.frozen? ⟨wr.heap.size, 5, none⟩ = false := blk_frozen HBK.out 5
                  have oS := OwnC.setFar (g := wr.heap.size) [.int .i64 q0, .int .i64 q1, .int .i64 q2, .int .i64 q3, .int .i64 q4, .int .i64 q5] 0 HO3.out (Nat.le_refl _)
                  have eS := Below.setMany (g := wr.heap.size) hW [.int .i64 q0, .int .i64 q1, .int .i64 q2, .int .i64 q3, .int .i64 q4, .int .i64 q5] 0 e3
                  simp only [wsetMany, Nat.zero_add, Nat.reduceAdd] at oS eS
                  have bN : Below ((((((u3.setCell ⟨wr.heap.size, 0, none⟩ (.int .i64 q0)).setCell ⟨wr.heap.size, 1, none⟩ (.int .i64 q1)).setCell ⟨wr.heap.size, 2, none⟩ (.int .i64 q2)).setCell ⟨wr.heap.size, 3, none⟩ (.int .i64 q3)).setCell ⟨wr.heap.size, 4, none⟩ (.int .i64 q4)).setCell ⟨wr.heap.size, 5, none⟩ (.int .i64 q5)).heap.size ((((((u3.setCell ⟨wr.heap.size, 0, none⟩ (.int .i64 q0)).setCell ⟨wr.heap.size, 1, none⟩ (.int .i64 q1)).setCell ⟨wr.heap.size, 2, none⟩ (.int .i64 q2)).setCell ⟨wr.heap.size, 3, none⟩ (.int .i64 q3)).setCell ⟨wr.heap.size, 4, none⟩ (.int .i64 q4)).setCell ⟨wr.heap.size, 5, none⟩ (.int .i64 q5)) (((((((u3.setCell ⟨wr.heap.size, 0, none⟩ (.int .i64 q0)).setCell ⟨wr.heap.size, 1, none⟩ (.int .i64 q1)).setCell ⟨wr.heap.size, 2, none⟩ (.int .i64 q2)).setCell ⟨wr.heap.size, 3, none⟩ (.int .i64 q3)).setCell ⟨wr.heap.size, 4, none⟩ (.int .i64 q4)).setCell ⟨wr.heap.size, 5, none⟩ (.int .i64 q5)).alloc (.cells #[.int .i64 q0, .int .i64 q1, .int .i64 q2, .int .i64 q3, .int .i64 q4, .int .i64 q5] 34)) := (Below.refl _ _).alloc (Nat.le_refl _) _
                  have oN : OwnFact (((((((u3.setCell ⟨wr.heap.size, 0, none⟩ (.int .i64 q0)).setCell ⟨wr.heap.size, 1, none⟩ (.int .i64 q1)).setCell ⟨wr.heap.size, 2, none⟩ (.int .i64 q2)).setCell ⟨wr.heap.size, 3, none⟩ (.int .i64 q3)).setCell ⟨wr.heap.size, 4, none⟩ (.int .i64 q4)).setCell ⟨wr.heap.size, 5, none⟩ (.int .i64 q5)).alloc (.cells #[.int .i64 q0, .int .i64 q1, .int .i64 q2, .int .i64 q3, .int .i64 q4, .int .i64 q5] 34)) (w.heap.size + 1) wr.heap.size _ _ := oS.below bN (by simp [World.setCell]; exact Nat.le_of_lt hM3)
                  have rN := rowC_one 6 34 ((((((u3.setCell ⟨wr.heap.size, 0, none⟩ (.int .i64 q0)).setCell ⟨wr.heap.size, 1, none⟩ (.int .i64 q1)).setCell ⟨wr.heap.size, 2, none⟩ (.int .i64 q2)).setCell ⟨wr.heap.size, 3, none⟩ (.int .i64 q3)).setCell ⟨wr.heap.size, 4, none⟩ (.int .i64 q4)).setCell ⟨wr.heap.size, 5, none⟩ (.int .i64 q5)) [.int .i64 q0, .int .i64 q1, .int .i64 q2, .int .i64 q3, .int .i64 q4, .int .i64 q5] rfl
                  have hsz4 : ((((((u3.setCell ⟨wr.heap.size, 0, none⟩ (.int .i64 q0)).setCell ⟨wr.heap.size, 1, none⟩ (.int .i64 q1)).setCell ⟨wr.heap.size, 2, none⟩ (.int .i64 q2)).setCell ⟨wr.heap.size, 3, none⟩ (.int .i64 q3)).setCell ⟨wr.heap.size, 4, none⟩ (.int .i64 q4)).setCell ⟨wr.heap.size, 5, none⟩ (.int .i64 q5)).heap.size = u3.heap.size := by simp [World.setCell]
                  rw [hsz4] at rN
                  clear hsz4
                  have lN : w.heap.size + 1 ≤ (((((((u3.setCell ⟨wr.heap.size, 0, none⟩ (.int .i64 q0)).setCell ⟨wr.heap.size, 1, none⟩ (.int .i64 q1)).setCell ⟨wr.heap.size, 2, none⟩ (.int .i64 q2)).setCell ⟨wr.heap.size, 3, none⟩ (.int .i64 q3)).setCell ⟨wr.heap.size, 4, none⟩ (.int .i64 q4)).setCell ⟨wr.heap.size, 5, none⟩ (.int .i64 q5)).alloc (.cells #[.int .i64 q0, .int .i64 q1, .int .i64 q2, .int .i64 q3, .int .i64 q4, .int .i64 q5] 34)).heap.size := Nat.le_trans (by simp [World.setCell]; exact Nat.le_trans hAl b3'.size) bN.size
                  have eN : Below (w.heap.size + 1) W0 (((((((u3.setCell ⟨wr.heap.size, 0, none⟩ (.int .i64 q0)).setCell ⟨wr.heap.size, 1, none⟩ (.int .i64 q1)).setCell ⟨wr.heap.size, 2, none⟩ (.int .i64 q2)).setCell ⟨wr.heap.size, 3, none⟩ (.int .i64 q3)).setCell ⟨wr.heap.size, 4, none⟩ (.int .i64 q4)).setCell ⟨wr.heap.size, 5, none⟩ (.int .i64 q5)).alloc (.cells #[.int .i64 q0, .int .i64 q1, .int .i64 q2, .int .i64 q3, .int .i64 q4, .int .i64 q5] 34)) := eS.trans (bN.mono (by simp [World.setCell]; exact Nat.le_trans hAl b3'.size))
                  go_wp2_with (at_builtin; refine wpList_append_OwnC rfl _ _ _ rfl i0 (.agg zerosFact.toArray) 48 Tryz.underlying25 hi0 hz0 hz1 hz2 rfl (by decide) rfl oN _ _ _ _ rfl rN (FactD.one ⟨q0, q1, q2, q3, q4, q5⟩) (by (try simp only [List.length_append, List.length_cons, List.length_nil]); omega) (by decide) lN ?_; intro v' w' ho hb')

                  refine ⟨⟨k + 1, true, P ++ [⟨q0, q1, q2, q3, q4, q5⟩], by omega, by go_num, rfl, ?_, ?_, ?_⟩, by simp only [intOf]; omega⟩
                  · exact OwnC.joined (f := FactD.cells) (ys := [⟨q0, q1, q2, q3, q4, q5⟩]) ho
                  · unfold Hid
                    rw [HS.out, show mergeF f x = ⟨q0, q1, q2, q3, q4, q5⟩ by unfold mergeF; rw [HSM.out, HNW.out]; exact HFE.out]
                    first | (simp; done) | (simp; exact HFE.out)
                  · exact eN.trans hb'
        · obtain rfl : k = xs.length := by omega
          have hG : putGo f false xs = P ++ (if dd then [] else [f]) := by
            rw [HP.out, List.drop_of_length_le (Nat.le_refl _)]
            rfl
          have hP : (putGo f false xs).length ≤ 61 := by have := putGo_length f false xs; omega
          have hpf : putF xs f = if (putGo f false xs).length ≤ 30 then (putGo f false xs, true) else (xs, false) := by unfold putF; rw [HST.out, HFB.out]; rfl
          have HO := Lib.hid hown
          clear hown HP
          cases dd
          · rw [show (if false = true then [] else [f]) = [f] from rfl] at hG
            have hP2 : P.length ≤ 60 := by rw [hG, List.length_append] at hP; simp at hP; omega
            clear hP
            have hwr : w.heap.size + 1 ≤ wr.heap.size := Nat.le_trans (Nat.le_of_eq hsz.symm) hb.size
            have bP : Below wr.heap.size wr (wr.alloc (.cells #[.int .i64 q0, .int .i64 q1, .int .i64 q2, .int .i64 q3, .int .i64 q4, .int .i64 q5] 34)) := (Below.refl _ _).alloc (Nat.le_refl _) _
            have oP := HO.out.below bP (Nat.le_refl _)
            have rP := rowC_one 6 34 wr [.int .i64 q0, .int .i64 q1, .int .i64 q2, .int .i64 q3, .int .i64 q4, .int .i64 q5] rfl
            have lP := Nat.le_trans hwr bP.size
            have eP := hb.trans (bP.mono hwr)
            have fb := blk_keep HBL.out hb (Nat.lt_succ_self _)
            have f0 := blk_cell fb 0 rfl
            have f1 := blk_cell fb 1 rfl
            have f2 := blk_cell fb 2 rfl
            have f3 := blk_cell fb 3 rfl
            have f4 := blk_cell fb 4 rfl
            have f5 := blk_cell fb 5 rfl
            go_upto_region 19 with (at_builtin; refine wpList_append_OwnC rfl _ _ _ rfl i0 (.agg zerosFact.toArray) 48 Tryz.underlying25 hi0 hz0 hz1 hz2 rfl (by decide) rfl oP _ _ _ _ rfl rP (FactD.one ⟨q0, q1, q2, q3, q4, q5⟩) (by (try simp only [List.length_append, List.length_cons, List.length_nil]); omega) (by decide) lP ?_; intro v5 u5 ho5 hb5)
            clear f0 f1 f2 f3 f4 f5 fb
            have eW := eP.trans hb5
            have oW := OwnC.joined (f := FactD.cells) (ys := [⟨q0, q1, q2, q3, q4, q5⟩]) ho5
            obtain ⟨Q, hQ⟩ : ∃ Q, Q = P ++ [(⟨q0, q1, q2, q3, q4, q5⟩ : FactD)] := ⟨_, rfl⟩
            rw [← hQ] at oW
            have hfq : [f] = [(⟨q0, q1, q2, q3, q4, q5⟩ : FactD)] := by rw [HFE.out]
            rw [hfq, ← hQ] at hG
            have HOW := Lib.hid oW
            clear oW ho5 oP hQ hfq
            obtain ⟨_, A, cp, rfl, hc1, hc2, _, _⟩ := HOW.out.read
            unfold maxLen at hc2
            have dW := hb0.trans (eW.mono (Nat.le_succ _))
            by_cases hle : Q.length ≤ 30
            · have e1 : putF xs f = (Q, true) := by rw [hpf, hG, if_pos hle]
              go_wp2
              go_ret2
              rw [e1]
              exact ⟨_, rfl, HOW.out.wide (Nat.le_succ _) (Nat.le_refl _), dW⟩
            · have e1 : putF xs f = (xs, false) := by rw [hpf, hG, if_neg hle]
              go_wp2_with fail
              refine (HCP.out _ dW).mono ?_
              rintro e u9 ⟨v9, rfl, ho, b9⟩
              go_wp2
              go_ret2
              rw [e1]
              exact ⟨v9, rfl, ho.wide dW.size (Nat.le_refl _), dW.trans (b9.mono dW.size)⟩
          · rw [show (if true = true then ([] : List FactD) else [f]) = [] from rfl, List.append_nil] at hG
            clear hP
            obtain ⟨_, A, cp, rfl, hc1, hc2, _, _⟩ := HO.out.read
            unfold maxLen at hc2
            have dW := hb0.trans (hb.mono (Nat.le_succ _))
            by_cases hle : P.length ≤ 30
            · have e1 : putF xs f = (P, true) := by rw [hpf, hG, if_pos hle]
              go_wp2
              go_ret2
              rw [e1]
              exact ⟨_, rfl, HO.out.wide (Nat.le_succ _) (Nat.le_refl _), dW⟩
            · have e1 : putF xs f = (xs, false) := by rw [hpf, hG, if_neg hle]
              go_wp2_with fail
              refine (HCP.out _ dW).mono ?_
              rintro e u9 ⟨v9, rfl, ho, b9⟩
              go_wp2
              go_ret2
              rw [e1]
              exact ⟨v9, rfl, ho.wide dW.size (Nat.le_refl _), dW.trans (b9.mono dW.size)⟩
end Go.Proofs.YtmgigjpkpeamjaaGreat
