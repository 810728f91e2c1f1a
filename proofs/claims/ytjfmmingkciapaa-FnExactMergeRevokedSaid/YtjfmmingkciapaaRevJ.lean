/- Revocations (chapter 11): contracts of the landed functions: a list with a directory of its numbers, and what is looked up in it. Condition: the numbers are integers of their type. -/
import Derived.Test.YtjfmmingkciapaaRevI
import Derived.Test.YtjfmmingkciapaaCellS
namespace Go.Proofs.Ytjfmmingkciapaa
open Go.ChangeShapes Go.WideShapes Go.ChangeAt Go.RowKit Go.Maps
set_option linter.unusedVariables false

set_option maxHeartbeats 4000000 in
theorem impl_revocationsOf (w : World) (hi c : Nat) (a : Option Addr) (xs : List RevokedD) (h : RowRevoked w hi (.slice a xs.length c) xs) (hh : hi ≤ w.heap.size) (hwf : ∀ x ∈ xs, x.wf) :
    Calls Try.prog 75 #[.slice a xs.length c] w fun e w' => ∃ b, e = .returned (.agg #[.map (some b), .slice a xs.length c]) ∧ w.heap.size ≤ b ∧ HasDir w' b xs ∧ Below w.heap.size w w' := by
  obtain ⟨h1, h2⟩ := h.fits
  unfold maxLen at h2
  have H := Lib.hid h
  have HWF := Lib.hid hwf
  clear h hwf
  have hmm := @run_makeMap Try.prog
  obtain ⟨W3, hW3⟩ : ∃ W3 : World, W3 = (((w.alloc (.cells #[.map none, .slice none 0 0] 95)).alloc (.map #[] 0)).alloc (.cells #[.map (some (w.heap.size + 1)), .slice a xs.length c] 95)) := ⟨_, rfl⟩
  have hB3 : Below w.heap.size w W3 := by rw [hW3]; go_grown
  have hs3 : W3.heap.size = w.heap.size + 3 := by rw [hW3]; simp
  have hO3 : W3.ownsMap Try.prog 3 (plainElem (H := Unit) Try.prog 3) (w.heap.size + 1) 0 (.map []) := by
    rw [hW3]
    have h9 := World.ownsMap_made (w.alloc (.cells #[.map none, .slice none 0 0] 95)) Try.prog 3 (plainElem (H := Unit) Try.prog 3)
    rw [size_alloc] at h9
    exact h9.alloc _
  have hk0 : W3.heap[w.heap.size]? = some (.cells #[.map none, .slice none 0 0] 95) := by
    rw [hW3]
    exact blk_keep (C := w.heap.size + 1) (blk_new w _ _) (((Below.refl _ _).alloc (by simp) _).alloc (by simp) _) (Nat.lt_succ_self _)
  have hk2 : W3.heap[w.heap.size + 2]? = some (.cells #[.map (some (w.heap.size + 1)), .slice a xs.length c] 95) := by
    rw [hW3]
    exact blk_new_at _ _ (by simp)
  go_enter Try.func75, Try.ntmps75
  go_wp2
  rw [← hW3]
  clear hW3 hmm
  go_loopw [11] (fun i wr => ∃ k : Nat, k ≤ xs.length ∧ i = .int .i64 (k : Int) ∧ (∃ D : DataW Unit, wr.ownsMap Try.prog 3 (plainElem Try.prog 3) (w.heap.size + 1) k D ∧ Hid (DirR D xs k)) ∧ wr.heap[w.heap.size]? = some (.cells #[.map none, .slice none 0 0] 95) ∧ wr.heap[w.heap.size + 2]? = some (.cells #[.map (some (w.heap.size + 1)), .slice a xs.length c] 95) ∧ Below w.heap.size w wr) (fun i _ => xs.length - (intOf i).toNat)
  case atStart => exact ⟨0, Nat.zero_le _, rfl, ⟨_, hO3, DirR.zero xs⟩, hk0, hk2, hB3⟩
  case round =>
    obtain ⟨k, hk, rfl, ⟨D, hown, HM⟩, k0, k2, hb⟩ := hrel
    have HK0 := Lib.hid k0
    have HK2 := Lib.hid k2
    have hlt2 := blk_lt k2
    clear k0 k2 hO3 hk0 hk2 hB3 hs3
    by_cases hlt : k < xs.length
    · obtain ⟨x, hx⟩ : ∃ x, xs[k]? = some x := ⟨_, List.getElem?_eq_getElem hlt⟩
      have hxw := HWF.out x (List.mem_of_getElem? hx)
      have HX := Lib.hid hx
      obtain ⟨p0, p1⟩ := x
      obtain ⟨b, off, rfl, g1, g2, HC⟩ := H.out.at hx
      obtain ⟨c0, c1⟩ := HC _ _ g2 hb
      clear HC hx
      have hb1 : Below w.heap.size w (wr.alloc (.cells #[.int .i64 p0, .int .i64 p1] 99)) := hb.alloc hb.size _
      have bA : Below wr.heap.size wr (wr.alloc (.cells #[.int .i64 p0, .int .i64 p1] 99)) := (Below.refl _ _).alloc (Nat.le_refl _) _
      have hob := hown.alloc (.cells #[.int .i64 p0, .int .i64 p1] 99)
      have hE := impl_enter _ _ _ _ p0 (k : Int) hob hxw.1 (wf_i64 (by omega) (by omega)) (by unfold maxLen; omega)
      have HE := Lib.hid hE
      have m0 := blk_cell (blk_keep HK2.out bA hlt2) 0 rfl
      have hKA := Lib.hid (blk_keep HK0.out bA (blk_lt HK0.out))
      have hKB := Lib.hid (blk_keep HK2.out bA hlt2)
      clear hob hown hE hxw
      go_wp2_with fail
      refine HE.out.mono ?_
      rintro e u ⟨rfl, hg, hown⟩
      have n0 : u.heap[w.heap.size]? = some (.cells #[.map none, .slice none 0 0] 95) := (hg.block _ (blk_lt hKA.out) (by simp)).trans hKA.out
      have n2 : u.heap[w.heap.size + 2]? = some (.cells #[.map (some (w.heap.size + 1)), .slice (some ⟨b, off, none⟩) xs.length c] 95) := (hg.block _ (blk_lt hKB.out) (by simp)).trans hKB.out
      have HO := Lib.hid hown
      have N0 := Lib.hid n0
      have N2 := Lib.hid n2
      have hb2 : Below w.heap.size w u := hb1.grown hg hb1.size (fun j hj => by cases hj; omega)
      clear hown n0 n2 m0 c0 c1
      go_wp2
      refine ⟨⟨k + 1, by omega, by go_num, ⟨_, HO.out, ?_⟩, N0.out, N2.out, hb2⟩, by simp only [intOf]; omega⟩
      cases hh : Maps.has D (.int .i64 p0)
      · exact HM.out.put HX.out hh
      · exact HM.out.skip HX.out hh
    · obtain rfl : k = xs.length := by omega
      have HO := Lib.hid hown
      obtain ⟨⟨c0, c1⟩, -⟩ := cls_2 HK2.out
      obtain ⟨⟨d0, d1⟩, f0, f1⟩ := cls_2 HK0.out
      obtain ⟨hE, tE⟩ := stt_2 HK0.out (.map (some (w.heap.size + 1))) (.slice a xs.length c)
      have HE := Lib.hid (cls_2 hE).1
      have HB := Lib.hid (hb.trans (tE.below (B := w.heap.size) (fun k hk => by rw [List.mem_singleton] at hk; omega) hb.size))
      have HT := Lib.hid tE
      clear hE tE hown
      go_wp2
      obtain ⟨e0, e1⟩ := HE.out
      have B4 := HB.out
      have T4 := HT.out
      generalize World.setCell _ _ _ = V at e0 e1 B4 T4 ⊢
      have hO : V.ownsMap Try.prog 3 (plainElem Try.prog 3) (w.heap.size + 1) xs.length D := by
        obtain ⟨es, clock, q1, q2⟩ := HO.out
        exact ⟨es, clock, (T4.block _ (by have := (Array.getElem?_eq_some_iff.1 q1).1; exact this) (by simp)).trans q1, q2⟩
      show bodyPost _ _ _ _ _ _
      refine bodyPost_ret (v := .agg #[.map (some (w.heap.size + 1)), .slice a xs.length c]) (by simp [results, Try.results75, go_sem, e0, e1]) rfl ?_
      exact ⟨_, rfl, by omega, ⟨_, _, hO, HM.out⟩, B4⟩
end Go.Proofs.Ytjfmmingkciapaa
